// Package crc is layer 1: see shared/doc/01-crc.md.
package crc

const (
	// turned are the bits that a turn of an odd number changes.
	turned = 0xedb88320
	// all are the bits that a sum begins with and changes at its end: from 0, zero bytes ahead of others would not be told.
	all = 0xffffffff
	// farthest is the greatest place that Flip takes: a place a few bits behind it is a number still.
	farthest = 1 << 40
)

// Table is the sum's table.
type Table [256]uint32

// Make is the table.
func Make() Table {
	var t Table
	for i := range t {
		n := uint32(i)
		for range 8 {
			n = turn(n)
		}
		t[i] = n
	}
	return t
}

func turn(n uint32) uint32 {
	if n%2 == 1 {
		return n/2 ^ turned
	}
	return n / 2
}

// Go goes on from a number.
func (t *Table) Go(n uint32, b []byte) uint32 {
	if t == nil {
		return 0
	}
	for _, x := range b {
		n = t[byte(n)^x] ^ n>>8
	}
	return n
}

// Sum is the sum of bytes.
func (t *Table) Sum(b []byte) uint32 {
	return t.Join(b, nil)
}

// Join is the sum of bytes that stand one behind the other. They aren't put together: Go of the whole is Go of the parts, one by one.
func (t *Table) Join(a, b []byte) uint32 {
	if t == nil {
		return 0
	}
	return t.Go(t.Go(all, a), b) ^ all
}

// Flip changes bits.
func Flip(b []byte, at int, bits uint32) []byte {
	out := make([]byte, len(b))
	copy(out, b)
	if at < 0 || int64(at) > farthest {
		return out
	}
	for k := range 32 {
		place := int64(at) + int64(k)
		if place/8 >= int64(len(out)) {
			break
		}
		if bits>>k%2 == 1 {
			out[place/8] ^= 1 << (place % 8)
		}
	}
	return out
}
