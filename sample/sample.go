// Package sample is what the tests of several layers need: numbers and bytes without a plain pattern, the same ones in each run, bits as text, and what is changed within 32 bits.
package sample

import (
	"iter"
	"strings"

	"bindle/bits"
	"bindle/crc"
)

// next is the number behind one. Its highest bits have the least of a pattern.
func next(n uint32) uint32 {
	return n*1664525 + 1013904223
}

// Dice throws numbers from 0 on that are less than the sides, which are at least one.
func Dice(seed uint32) func(sides int) int {
	return func(sides int) int {
		seed = next(seed)
		return int(uint64(seed) * uint64(sides) >> 32)
	}
}

// Bytes is n bytes.
func Bytes(n int, seed uint32) []byte {
	b := make([]byte, n)
	for i := range b {
		seed = next(seed)
		b[i] = byte(seed >> 24)
	}
	return b
}

// Bursts tells, of each place of a bit, bytes in which that bit is changed, and others within 32 bits from it on, again and again.
func Bursts(b []byte, seed uint32) iter.Seq2[int, []byte] {
	return func(yield func(int, []byte) bool) {
		for at := range 8 * len(b) {
			seed = next(seed)
			for _, pattern := range []uint32{1, 1 | 1<<(seed>>27), 1 | 1<<31, 1 | seed, 0xffffffff} {
				if !yield(at, crc.Flip(b, at, pattern)) {
					return
				}
			}
		}
	}
}

// Bits reads the bits of a text of 0 and 1, and no more than these.
func Bits(text string) *bits.Reader {
	var w bits.Writer
	// What fills the last byte stands ahead, and is passed over.
	ahead := (8 - len(text)%8) % 8
	w.Put(0, ahead)
	for _, c := range text {
		w.Put(uint32(c-'0'), 1)
	}
	r := bits.New(w.Bytes())
	r.Skip(ahead)
	return r
}

// Text is all bits that a reader has left, as 0 and 1. They aren't taken.
func Text(r *bits.Reader) string {
	ahead := *r
	var s strings.Builder
	for ahead.Left() > 0 {
		n, _ := ahead.Take(1)
		s.WriteByte('0' + byte(n))
	}
	return s.String()
}

// Written is all bits of a writer, as 0 and 1.
func Written(w *bits.Writer) string {
	return Text(bits.New(w.Bytes()))[:w.Len()]
}

// Number is the lowest bits of n, so many, as 0 and 1, the lowest one first.
func Number(n, width int) string {
	var s strings.Builder
	for k := range width {
		s.WriteByte('0' + byte(n>>k&1))
	}
	return s.String()
}
