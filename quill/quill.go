// Package quill is layer 1: numbers and texts as bytes.
package quill

import "scriptorium/api"

// maxDigits is how many bytes MaxNumber has.
const maxDigits = 7

// Num is a number's bytes: how many follow, and these, the highest first.
func Num(n int) ([]byte, api.Errno) {
	if n < 0 || n > api.MaxNumber {
		return nil, api.ErrArg
	}
	return numBytes(n), api.OK
}

// TakeNum takes a number's bytes off the beginning of b.
func TakeNum(b []byte) (n int, rest []byte, e api.Errno) {
	n, rest, e = cutNum(b)
	return n, Join(rest), e
}

// Str is a text's bytes, if it has at most so many.
func Str(s string, most int) ([]byte, api.Errno) {
	if most < 0 {
		return nil, api.ErrArg
	}
	if len(s) > most {
		return nil, api.ErrLimit
	}
	return Join(numBytes(len(s)), []byte(s)), api.OK
}

// TakeStr takes a text's bytes off the beginning of b.
func TakeStr(b []byte, most int) (s string, rest []byte, e api.Errno) {
	if most < 0 {
		return "", nil, api.ErrArg
	}
	size, behind, e := cutNum(b)
	if e != api.OK {
		return "", nil, e
	}
	if size > most {
		return "", nil, api.ErrLimit
	}
	if size > len(behind) {
		return "", nil, api.ErrTrunc
	}
	return string(behind[:size]), Join(behind[size:]), api.OK
}

// Join is the bytes of all of l, one behind the other. It always copies: the
// other calls lean on it for answers that share nothing with what was handed in.
func Join(l ...[]byte) []byte {
	size := 0
	for _, b := range l {
		size += len(b)
	}
	all := make([]byte, 0, size)
	for _, b := range l {
		all = append(all, b...)
	}
	return all
}

// numBytes is Num of what is known to be a number.
func numBytes(n int) []byte {
	var digits [maxDigits]byte
	first := maxDigits
	for ; n > 0; n >>= 8 {
		first--
		digits[first] = byte(n)
	}
	return Join([]byte{byte(maxDigits - first)}, digits[first:])
}

// cutNum is TakeNum without the copy: rest is a piece of b, so that a text
// behind a number is copied once only.
func cutNum(b []byte) (n int, rest []byte, e api.Errno) {
	if len(b) == 0 {
		return 0, nil, api.ErrTrunc
	}
	count := int(b[0])
	if count > maxDigits {
		return 0, nil, api.ErrSyntax
	}
	end := 1 + count
	if len(b) < end {
		return 0, nil, api.ErrTrunc
	}
	// A nought ahead would give one number several forms.
	if count > 0 && b[1] == 0 {
		return 0, nil, api.ErrSyntax
	}
	for left := b[1:end:end]; len(left) > 0; left = left[1:len(left):len(left)] {
		n = n<<8 | int(left[0])
	}
	if n > api.MaxNumber {
		return 0, nil, api.ErrSyntax
	}
	return n, b[end:len(b):len(b)], api.OK
}
