package cell

import (
	"scriptorium/api"
	"scriptorium/quill"
)

// maxStr is the length of the longest text within another one, a value. Keys are
// shorter; what reads one checks that.
const maxStr = api.MaxValue

// maxText is above the length of each text that may be. A longer one is not read
// at all, as quill copies what is left behind each number that it takes.
const maxText = 2048

// pen writes numbers and texts that are known to be such, one behind the other.
type pen struct {
	written []byte
}

func (p *pen) nums(l ...int) {
	for _, n := range l {
		b, _ := quill.Num(n)
		p.written = append(p.written, b...)
	}
}

func (p *pen) stamps(l ...api.Stamp) {
	for _, s := range l {
		p.nums(s.Wall, s.Logic)
	}
}

func (p *pen) flag(is bool) {
	if is {
		p.nums(1)
		return
	}
	p.nums(0)
}

func (p *pen) str(s string) {
	b, _ := quill.Str(s, maxStr)
	p.written = append(p.written, b...)
}

// text is all that was written.
func (p *pen) text() string {
	return string(p.written)
}

// reader takes what a pen has written. Once something could not be taken, it is
// bad for good, and what it answers does not count.
type reader struct {
	left []byte
	bad  bool
}

func newReader(s string) *reader {
	if len(s) > maxText {
		return &reader{bad: true}
	}
	return &reader{left: []byte(s)}
}

func (r *reader) nums(l ...*int) {
	for _, n := range l {
		var e api.Errno
		*n, r.left, e = quill.TakeNum(r.left)
		r.need(e == api.OK)
	}
}

func (r *reader) stamps(l ...*api.Stamp) {
	for _, s := range l {
		r.nums(&s.Wall, &s.Logic)
	}
}

func (r *reader) flag() bool {
	var n int
	r.nums(&n)
	r.need(n <= 1)
	return n == 1
}

func (r *reader) str() string {
	s, rest, e := quill.TakeStr(r.left, maxStr)
	r.left = rest
	r.need(e == api.OK)
	return s
}

// many reads how many there are, and then each of them. There may be said to be
// more than the text has room for, so it ends where one can't be taken.
func (r *reader) many(read func()) {
	var n int
	r.nums(&n)
	for i := 0; i < n && !r.bad; i++ {
		read()
	}
}

func (r *reader) need(well bool) {
	if !well {
		r.bad = true
	}
}

// isDone tells whether all could be taken, and nothing is left.
func (r *reader) isDone() bool {
	return !r.bad && len(r.left) == 0
}
