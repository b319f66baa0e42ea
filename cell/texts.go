package cell

import (
	"scriptorium/api"
	"scriptorium/stamp"
)

// Number is a number's text.
func Number(n int) (string, api.Errno) {
	if !isNumber(n) {
		return "", api.ErrArg
	}
	var p pen
	p.nums(n)
	return p.text(), api.OK
}

// TakeNumber is the number that a text says.
func TakeNumber(s string) (int, api.Errno) {
	var n int
	r := newReader(s)
	r.nums(&n)
	if !r.isDone() {
		return 0, api.ErrSyntax
	}
	return n, api.OK
}

// Stamp is a stamp's text.
func Stamp(s api.Stamp) (string, api.Errno) {
	if stamp.Check(s) != api.OK {
		return "", api.ErrArg
	}
	var p pen
	p.stamps(s)
	return p.text(), api.OK
}

// TakeStamp is the stamp that a text says.
func TakeStamp(s string) (api.Stamp, api.Errno) {
	var x api.Stamp
	r := newReader(s)
	r.stamps(&x)
	if !r.isDone() || stamp.Check(x) != api.OK {
		return api.Stamp{}, api.ErrSyntax
	}
	return x, api.OK
}

// Version is a version's text: a value, or that the key is gone.
func Version(value string, is bool) (string, api.Errno) {
	if !isValue(value, is) {
		return "", api.ErrArg
	}
	var p pen
	p.flag(is)
	if is {
		p.str(value)
	}
	return p.text(), api.OK
}

// TakeVersion is the value that a text says, if it does not say that the key is
// gone.
func TakeVersion(s string) (value string, is bool, e api.Errno) {
	r := newReader(s)
	if r.flag() {
		value, is = r.str(), true
	}
	if !r.isDone() {
		return "", false, api.ErrSyntax
	}
	return value, is, api.OK
}

// Intent is an intent's text.
func Intent(x api.Intent) (string, api.Errno) {
	if e := CheckIntent(x); e != api.OK {
		return "", e
	}
	var p pen
	p.nums(x.Id, x.Epoch, x.Priority)
	p.str(x.Anchor)
	p.stamps(x.Stamp, x.Beat)
	p.nums(len(x.L))
	for _, c := range x.L {
		p.nums(c.Seq)
		p.flag(c.Del)
		p.str(c.Value)
	}
	return p.text(), api.OK
}

// TakeIntent is the intent that a text says.
func TakeIntent(s string) (api.Intent, api.Errno) {
	var x api.Intent
	r := newReader(s)
	r.nums(&x.Id, &x.Epoch, &x.Priority)
	x.Anchor = r.str()
	r.stamps(&x.Stamp, &x.Beat)
	r.many(func() {
		var c api.Change
		r.nums(&c.Seq)
		c.Del = r.flag()
		c.Value = r.str()
		x.L = append(x.L, c)
	})
	if !r.isDone() || CheckIntent(x) != api.OK {
		return api.Intent{}, api.ErrSyntax
	}
	return x, api.OK
}

// Record is a record's text.
func Record(x api.Record) (string, api.Errno) {
	if e := CheckRecord(x); e != api.OK {
		return "", e
	}
	var p pen
	p.nums(x.Id, x.Epoch, x.Status, x.Priority)
	p.str(x.Anchor)
	p.stamps(x.Stamp, x.Beat)
	p.nums(len(x.Writes))
	for _, w := range x.Writes {
		p.str(w.Key)
		p.nums(w.Seq)
	}
	return p.text(), api.OK
}

// TakeRecord is the record that a text says.
func TakeRecord(s string) (api.Record, api.Errno) {
	var x api.Record
	r := newReader(s)
	r.nums(&x.Id, &x.Epoch, &x.Status, &x.Priority)
	x.Anchor = r.str()
	r.stamps(&x.Stamp, &x.Beat)
	r.many(func() {
		var w api.Write
		w.Key = r.str()
		r.nums(&w.Seq)
		x.Writes = append(x.Writes, w)
	})
	if !r.isDone() || CheckRecord(x) != api.OK {
		return api.Record{}, api.ErrSyntax
	}
	return x, api.OK
}
