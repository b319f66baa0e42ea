package settle

import (
	"scriptorium/api"
	"scriptorium/cell"
	"scriptorium/table"
)

// justBehind is put behind a text to come to the next one: there is none between.
const justBehind = "\x00"

// intentOf is the intent at a key, if there is one that can be read, and it is of
// that transaction.
func intentOf(t *table.Table, key string, id int) (api.Intent, bool) {
	k, _ := cell.IntentKey(key)
	text, _ := t.Get(k) // where nothing stands it is "", which is no intent's
	intent, e := cell.TakeIntent(text)
	if e != api.OK || intent.Id != id {
		return api.Intent{}, false
	}
	return intent, true
}

// firstIntent is the intent of the least key in a span that is asked for, if there
// is one.
func firstIntent(t *table.Table, s api.Span, isAsked func(api.Intent) bool) (api.Intent, bool) {
	least, most := ends(s)
	from, _ := cell.IntentKey(least)
	to, _ := cell.IntentKey(most)
	for k, text := range t.All(from, to+justBehind) {
		key, noKey := cell.ReadIntent(k)
		intent, noText := cell.TakeIntent(text)
		if noKey == api.OK && noText == api.OK && isIn(s, key) && isAsked(intent) {
			return intent, true
		}
	}
	return api.Intent{}, false
}

// hasVersion tells whether a key in a span has a version at a stamp that is asked
// for.
func hasVersion(t *table.Table, s api.Span, isAsked func(api.Stamp) bool) bool {
	least, most := ends(s)
	// Of a key the version with the greatest stamp stands first.
	from, _ := cell.VersionKey(least, api.Stamp{Wall: api.MaxWall, Logic: api.MaxLogic})
	to, _ := cell.VersionKey(most, api.Stamp{})
	for k, text := range t.All(from, to+justBehind) {
		key, at, noKey := cell.ReadVersion(k)
		_, _, noText := cell.TakeVersion(text)
		if noKey == api.OK && noText == api.OK && isIn(s, key) && isAsked(at) {
			return true
		}
	}
	return false
}

// ends are two keys between which all keys of a span stand; these two need not be in
// it. A span's ends may be no keys: one may have no bytes, or more than a key may.
// Between a text that is too long, and its longest beginning that is a key, no key
// stands.
func ends(s api.Span) (least, most string) {
	keyAt := func(text string) string {
		return max(text[:min(len(text), api.MaxKey)], "\x00") // the least key
	}
	return keyAt(s.From), keyAt(s.To)
}

func isIn(s api.Span, key string) bool {
	return s.From <= key && key < s.To
}
