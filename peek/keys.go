package peek

import (
	"iter"

	"scriptorium/api"
	"scriptorium/cell"
	"scriptorium/table"
)

// justBehind is put behind a text to come to the next one: there is none between.
const justBehind = "\x00"

// intentAt is a key's intent, if there is one that can be read.
func intentAt(t *table.Table, key string) (api.Intent, bool) {
	k, _ := cell.IntentKey(key)
	text, _ := t.Get(k) // where nothing stands it is "", which is no intent's
	intent, e := cell.TakeIntent(text)
	return intent, e == api.OK
}

// versionUpTo is a key's version with the greatest stamp that is not above top;
// where there is none, it has the key alone.
func versionUpTo(t *table.Table, key string, top api.Stamp) Found {
	from, _ := cell.VersionKey(key, top)
	for k, text := range t.All(from, behindVersions(key)) {
		_, at, noKey := cell.ReadVersion(k)
		value, is, noText := cell.TakeVersion(text)
		if noKey == api.OK && noText == api.OK {
			return Found{Key: key, Value: value, Is: is, Stamp: at}
		}
	}
	return Found{Key: key}
}

// keysIn ranges over the keys in a span under which an intent or a version stands,
// whether its text can be read or not, rising. The next one of either kind is
// looked for only when the one ahead was told, so that what is no key is passed
// once only.
func keysIn(t *table.Table, s api.Span) iter.Seq[string] {
	return func(yield func(string) bool) {
		left := s
		intent, version := firstIntent(t, left), firstVersion(t, left)
		for intent != "" || version != "" {
			key := firstOf(intent, version)
			if !yield(key) {
				return
			}
			left.From = key + justBehind
			if key == intent {
				intent = firstIntent(t, left)
			}
			if key == version {
				version = firstVersion(t, left)
			}
		}
	}
}

// firstOf is the lesser one of two keys; "" is none.
func firstOf(a, b string) string {
	if a == "" || b != "" && b < a {
		return b
	}
	return a
}

// firstIntent is the least key in a span under which an intent stands, or "".
func firstIntent(t *table.Table, s api.Span) string {
	return firstKey(t, intentsFrom(s.From), intentsFrom(s.To), cell.ReadIntent)
}

// firstVersion is the least key in a span under which a version stands, or "".
func firstVersion(t *table.Table, s api.Span) string {
	return firstKey(t, versionsFrom(s.From), versionsFrom(s.To), func(k string) (string, api.Errno) {
		key, _, e := cell.ReadVersion(k)
		return key, e
	})
}

// firstKey is the first key that can be read in the table's keys from one place
// on, below another one, or "".
func firstKey(t *table.Table, from, to string, keyOf func(k string) (string, api.Errno)) string {
	for k := range t.All(from, to) {
		if key, e := keyOf(k); e == api.OK {
			return key
		}
	}
	return ""
}

// intentsFrom is where in a table the intents begin of the keys that are not below
// a text.
func intentsFrom(text string) string {
	key, isBehind := keyFrom(text)
	k, _ := cell.IntentKey(key)
	if isBehind {
		return k + justBehind
	}
	return k
}

// versionsFrom is where in a table the versions begin of the keys that are not
// below a text.
func versionsFrom(text string) string {
	key, isBehind := keyFrom(text)
	if isBehind {
		return behindVersions(key)
	}
	k, _ := cell.VersionKey(key, api.Stamp{Wall: api.MaxWall, Logic: api.MaxLogic})
	return k
}

// behindVersions is just behind where the version of a key at the least stamp
// stands, the last one.
func behindVersions(key string) string {
	k, _ := cell.VersionKey(key, api.Stamp{})
	return k + justBehind
}

// keyFrom is the key with which the keys begin that are not below a text, or else
// the one just behind which they do. A text may be longer than a key: no key goes
// on behind its longest beginning that is one, so all keys that are above that are
// above the text, too.
func keyFrom(text string) (key string, isBehind bool) {
	text = max(text, "\x00") // the least key; a text may be none
	if len(text) > api.MaxKey {
		return text[:api.MaxKey], true
	}
	return text, false
}
