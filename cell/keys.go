package cell

import (
	"strings"

	"scriptorium/api"
	"scriptorium/ordkey"
)

// With these a table's keys begin. They differ, so no key of one kind stands among
// those of another one.
const (
	markBound     = "b"
	markThreshold = "g"
	markIntent    = "i"
	markRecord    = "t"
	markVersion   = "v"
)

const idBytes = 8

// Bound is the key of the clock's bound.
func Bound() string {
	return markBound
}

// Threshold is the key of a shard's threshold.
func Threshold(shard int) (string, api.Errno) {
	if shard < 1 || shard > api.MaxShards {
		return "", api.ErrArg
	}
	return markThreshold + string([]byte{byte(shard)}), api.OK
}

// IntentKey is the key of a key's intent.
func IntentKey(key string) (string, api.Errno) {
	return markedKey(markIntent, key, "")
}

// RecordKey is the key of a transaction's record.
func RecordKey(anchor string, id int) (string, api.Errno) {
	if !isId(id) {
		return "", api.ErrArg
	}
	return markedKey(markRecord, anchor, idText(id))
}

// VersionKey is the key of a key's version at a stamp.
func VersionKey(key string, s api.Stamp) (string, api.Errno) {
	down, e := ordkey.Down(s)
	if e != api.OK {
		return "", e
	}
	return markedKey(markVersion, key, down)
}

// ReadVersion tells of which key a version is, and at which stamp.
func ReadVersion(k string) (key string, s api.Stamp, e api.Errno) {
	key, behind, is := readKey(markVersion, k)
	s, rest, e := ordkey.TakeDown(behind)
	if !is || e != api.OK || rest != "" {
		return "", api.Stamp{}, api.ErrSyntax
	}
	return key, s, api.OK
}

// ReadIntent tells of which key an intent is.
func ReadIntent(k string) (key string, e api.Errno) {
	key, behind, is := readKey(markIntent, k)
	if !is || behind != "" {
		return "", api.ErrSyntax
	}
	return key, api.OK
}

// ReadRecord tells of which transaction a record is.
func ReadRecord(k string) (anchor string, id int, e api.Errno) {
	anchor, behind, is := readKey(markRecord, k)
	id = idOf(behind)
	if !is || len(behind) != idBytes || !isId(id) {
		return "", 0, api.ErrSyntax
	}
	return anchor, id, api.OK
}

// markedKey is a table's key that begins with a mark and a key.
func markedKey(mark, key, behind string) (string, api.Errno) {
	if !isKey(key) {
		return "", api.ErrArg
	}
	text, _ := ordkey.Key(key) // it refuses longer texts alone
	return mark + text + behind, api.OK
}

// readKey is the key with which a table's key begins behind that mark, and what
// stands behind it, if it begins so.
func readKey(mark, k string) (key, behind string, is bool) {
	text, marked := strings.CutPrefix(k, mark)
	if !marked {
		return "", "", false
	}
	key, behind, e := ordkey.TakeKey(text)
	if e != api.OK || !isKey(key) {
		return "", "", false
	}
	return key, behind, true
}

// idText is an id's bytes, the highest first, so that they stand as ids do.
func idText(id int) string {
	var b [idBytes]byte
	for i := range b {
		b[i] = byte(id >> (8 * (idBytes - 1 - i)))
	}
	return string(b[:])
}

// idOf is what idText has written.
func idOf(t string) int {
	id := 0
	for _, c := range []byte(t) {
		id = id<<8 | int(c)
	}
	return id
}
