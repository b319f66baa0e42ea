package wal

import (
	"scriptorium/api"
	"scriptorium/frame"
	"scriptorium/quill"
)

const (
	maxRows     = 10000
	maxText     = 4096 // bytes of a key, and of a value
	maxNumBytes = 8    // as quill.Num makes them
	sumBytes    = 4    // at a record's end
)

// flagDel stands ahead of a change by which the key goes, flagPut ahead of all
// others.
const (
	flagPut = 0
	flagDel = 1
)

// checkBatch is the error of changes that are no batch. Limits come first, of
// whichever change, as the chapter puts them.
func checkBatch(l []api.Op) api.Errno {
	if len(l) > api.MaxBatch {
		return api.ErrLimit
	}
	for _, op := range l {
		if isTooLong(op.Key, op.Value) {
			return api.ErrLimit
		}
	}
	if len(l) == 0 {
		return api.ErrArg
	}
	for _, op := range l {
		if op.Key == "" || op.Del && op.Value != "" {
			return api.ErrArg
		}
	}
	return api.OK
}

// checkRows is the error of rows that may not be, or do not rise.
func checkRows(l []api.Row) api.Errno {
	if len(l) > maxRows {
		return api.ErrLimit
	}
	for _, row := range l {
		if isTooLong(row.Key, row.Value) {
			return api.ErrLimit
		}
	}
	ahead := "" // below each key that may be
	for _, row := range l {
		if row.Key <= ahead {
			return api.ErrArg
		}
		ahead = row.Key
	}
	return api.OK
}

func isTooLong(key, value string) bool {
	return len(key) > maxText || len(value) > maxText
}

// baseBytes are those of the file "base".
func baseBytes(turn, last int, rows []api.Row) []byte {
	pieces := [][]byte{recordBytes(numBytes(turn, last, len(rows)))}
	for _, row := range rows {
		pieces = append(pieces, recordBytes(textBytes(row.Key, row.Value)))
	}
	return quill.Join(pieces...)
}

// batchBytes are those in a batch's record.
func batchBytes(number int, l []api.Op) []byte {
	pieces := [][]byte{numBytes(number, len(l))}
	for _, op := range l {
		flag := flagPut
		if op.Del {
			flag = flagDel
		}
		pieces = append(pieces, numBytes(flag), textBytes(op.Key, op.Value))
	}
	return quill.Join(pieces...)
}

// recordBytes are a record of bytes that are known to be few enough.
func recordBytes(b []byte) []byte {
	record, _ := frame.Frame(b)
	return record
}

// numBytes are those of what are known to be numbers.
func numBytes(l ...int) []byte {
	var pieces [][]byte
	for _, n := range l {
		piece, _ := quill.Num(n)
		pieces = append(pieces, piece)
	}
	return quill.Join(pieces...)
}

// textBytes are those of texts that are known to be short enough.
func textBytes(l ...string) []byte {
	var pieces [][]byte
	for _, s := range l {
		piece, _ := quill.Str(s, maxText)
		pieces = append(pieces, piece)
	}
	return quill.Join(pieces...)
}

// reader takes numbers and texts off bytes, one behind the other. Behind one
// that can't be taken there are none.
type reader struct {
	left []byte
	bad  bool
}

// number takes a number off.
func (r *reader) number() int {
	head := r.first(maxNumBytes)
	n, rest, e := quill.TakeNum(head)
	r.pass(len(head)-len(rest), e)
	return n
}

// text takes a key, or a value, off.
func (r *reader) text() string {
	head := r.first(maxNumBytes + maxText)
	s, rest, e := quill.TakeStr(head, maxText)
	r.pass(len(head)-len(rest), e)
	return s
}

// isDone tells whether all could be taken, and nothing is left.
func (r *reader) isDone() bool {
	return !r.bad && len(r.left) == 0
}

// first is at most so many of the bytes that are left: quill copies what stands
// behind what it takes, which would be all of a long record, again and again.
func (r *reader) first(most int) []byte {
	return r.left[:min(most, len(r.left))]
}

func (r *reader) pass(size int, e api.Errno) {
	if e != api.OK {
		r.bad = true
		r.left = nil
		return
	}
	r.left = r.left[size:]
}
