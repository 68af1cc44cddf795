// Package octet is layer 1: numbers and texts are laid behind bytes, and read again (shared/doc/01-octet.md).
package octet

import "telltale/api"

const (
	maxWidth  = 6     // bytes of a number
	wordWidth = 8     // bytes of a word
	sizeWidth = 2     // bytes of a text's length
	maxLength = 65535 // bytes of a text
)

// Num lays a number of so many bytes, the highest first, behind b.
func Num(b []byte, width, n int) ([]byte, api.Errno) {
	if width < 1 || width > maxWidth {
		return nil, api.ErrArg
	}
	if n < 0 || n>>(8*width) != 0 {
		return nil, api.ErrRange
	}
	l := longer(b, width)
	fill(l[len(b):], uint64(n))
	return l, api.OK
}

// Word lays a number of eight bytes, the highest first, behind b.
func Word(b []byte, u uint64) []byte {
	l := longer(b, wordWidth)
	fill(l[len(b):], u)
	return l
}

// Text lays a text, its length ahead of it, behind b.
func Text(b []byte, s string) ([]byte, api.Errno) {
	if len(s) > maxLength {
		return nil, api.ErrLong
	}
	l := longer(b, sizeWidth+len(s))
	at := len(b) + sizeWidth
	fill(l[len(b):at], uint64(len(s)))
	copy(l[at:], s)
	return l, api.OK
}

// longer tells a new list of b's bytes and so many more: an append could write
// into the room that b's owner still has behind it.
func longer(b []byte, more int) []byte {
	l := make([]byte, len(b)+more)
	copy(l, b)
	return l
}

// fill lays u into the whole of b, the highest byte first.
func fill(b []byte, u uint64) {
	for i := len(b) - 1; i >= 0; i-- {
		b[i] = byte(u)
		u >>= 8
	}
}

// Reader reads a text's bytes from At on; E is the error that stopped it.
type Reader struct {
	Text string
	At   int
	E    api.Errno
}

// Open tells a reader at a text's beginning.
func Open(s string) Reader {
	return Reader{Text: s}
}

// Num reads a number of so many bytes.
func (r Reader) Num(width int) (Reader, int) {
	if width < 1 || width > maxWidth {
		return r.failed(api.ErrArg), 0
	}
	behind, s := r.take(width)
	return behind, int(number(s))
}

// Word reads a number of eight bytes.
func (r Reader) Word() (Reader, uint64) {
	behind, s := r.take(wordWidth)
	return behind, number(s)
}

// Str reads a text.
func (r Reader) Str() (Reader, string) {
	past, n := r.Num(sizeWidth)
	behind, s := past.take(n)
	if behind.E != api.OK {
		// Not behind itself: that may have passed the length already.
		return r.failed(behind.E), ""
	}
	return behind, s
}

// Left tells how many bytes are left.
func (r Reader) Left() int {
	if r.At < 0 || r.At > len(r.Text) {
		return 0
	}
	return len(r.Text) - r.At
}

// End tells whether all was read.
func (r Reader) End() api.Errno {
	if r.E != api.OK {
		return r.E
	}
	if r.Left() > 0 {
		return api.ErrLong
	}
	return api.OK
}

// take reads the next n bytes.
func (r Reader) take(n int) (Reader, string) {
	if r.E != api.OK || r.Left() < n {
		return r.failed(api.ErrCut), ""
	}
	s := r.Text[r.At : r.At+n]
	r.At += n
	return r, s
}

// failed tells the reader where it is with an error: the one that it had first stays.
func (r Reader) failed(e api.Errno) Reader {
	if r.E == api.OK {
		r.E = e
	}
	return r
}

// number tells what bytes come to, the highest first; 0 of none.
func number(s string) uint64 {
	var u uint64
	for i := 0; i < len(s); i++ {
		u = u<<8 | uint64(s[i])
	}
	return u
}
