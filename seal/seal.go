// Package seal is what several layers lay around their bytes: a mark ahead of them, and behind them the sum of all that is ahead.
package seal

import (
	"bindle/api"
	"bindle/crc"
	"bindle/field"
)

// wide is how many bytes a sum has, and each of three numbers.
const wide = 4

// Is tells whether a mark stands at a place.
func Is(mark string, b []byte, at int) bool {
	return at >= 0 && at <= len(b)-len(mark) && string(b[at:at+len(mark)]) == mark
}

// Close puts the sum of bytes behind them. It may be laid in their own memory.
func Close(t *crc.Table, b []byte) []byte {
	return field.Put(b, t.Sum(b), wide)
}

// Open is a reader behind a mark that should stand at a place. It isn't fine, if the mark isn't all there.
func Open(mark string, b []byte, at int) (*field.Reader, api.Errno) {
	if at < 0 || at > len(b) {
		return nil, api.ErrArg
	}
	if len(b)-at >= len(mark) && !Is(mark, b, at) {
		return nil, api.ErrForm
	}
	r := field.New(b)
	r.Seek(at)
	r.Bytes(len(mark))
	return r, api.OK
}

// Check reads the sum that stands behind all that a reader of b read from a place on.
func Check(t *crc.Table, r *field.Reader, b []byte, at int) api.Errno {
	behind := r.At()
	sum := r.Number(wide)
	switch {
	case !r.Ok():
		return api.ErrEnd
	case sum != t.Sum(b[at:behind]):
		return api.ErrSum
	}
	return api.OK
}

// PutThree is a mark, three numbers, and the sum of all these.
func PutThree(t *crc.Table, mark string, n [3]uint32) []byte {
	b := []byte(mark)
	for _, x := range n {
		b = field.Put(b, x, wide)
	}
	return Close(t, b)
}

// TakeThree is the three numbers that stand at a place, between a mark and the sum.
func TakeThree(t *crc.Table, mark string, b []byte, at int) ([3]uint32, api.Errno) {
	r, e := Open(mark, b, at)
	if e != api.OK {
		return [3]uint32{}, e
	}
	var n [3]uint32
	for i := range n {
		n[i] = r.Number(wide)
	}
	if e := Check(t, r, b, at); e != api.OK {
		return [3]uint32{}, e
	}
	return n, api.OK
}
