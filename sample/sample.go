// Package sample is what the tests of several layers need: numbers and bytes without a plain pattern, the same ones in each run, bits as text, lengths that may be a code, tokens of a text, payloads, what is changed within 32 bits, files and their bytes, steps, records that are laid, and what is refused.
package sample

import (
	"iter"
	"maps"
	"math"
	"slices"
	"strings"

	"bindle/api"
	"bindle/bits"
	"bindle/block"
	"bindle/crashfs"
	"bindle/crc"
	"bindle/record"
	"bindle/stone"
	"bindle/weigh"
)

// next is the number behind one. Its highest bits have the least of a pattern.
func next(n uint32) uint32 {
	return n*1664525 + 1013904223
}

// Dice throws numbers from 0 on that are less than the sides, which are at least one.
func Dice(seed uint32) func(sides int) int {
	return func(sides int) int {
		seed = next(seed)
		return int(uint64(seed) * uint64(sides) >> 32)
	}
}

// Bytes is n bytes.
func Bytes(n int, seed uint32) []byte {
	b := make([]byte, n)
	for i := range b {
		seed = next(seed)
		b[i] = byte(seed >> 24)
	}
	return b
}

// Bursts tells, of each place of a bit, bytes in which that bit is changed, and others within 32 bits from it on, again and again.
func Bursts(b []byte, seed uint32) iter.Seq2[int, []byte] {
	return func(yield func(int, []byte) bool) {
		for at := range 8 * len(b) {
			seed = next(seed)
			for _, pattern := range []uint32{1, 1 | 1<<(seed>>27), 1 | 1<<31, 1 | seed, 0xffffffff} {
				if !yield(at, crc.Flip(b, at, pattern)) {
					return
				}
			}
		}
	}
}

// Bits reads the bits of a text of 0 and 1, and no more than these.
func Bits(text string) *bits.Reader {
	var w bits.Writer
	// What fills the last byte stands ahead, and is passed over.
	ahead := (8 - len(text)%8) % 8
	w.Put(0, ahead)
	for _, c := range text {
		w.Put(uint32(c-'0'), 1)
	}
	r := bits.New(w.Bytes())
	r.Skip(ahead)
	return r
}

// Text is all bits that a reader has left, as 0 and 1. They aren't taken.
func Text(r *bits.Reader) string {
	ahead := *r
	var s strings.Builder
	for ahead.Left() > 0 {
		n, _ := ahead.Take(1)
		s.WriteByte('0' + byte(n))
	}
	return s.String()
}

// Written is all bits of a writer, as 0 and 1.
func Written(w *bits.Writer) string {
	return Text(bits.New(w.Bytes()))[:w.Len()]
}

// Number is the lowest bits of n, so many, as 0 and 1, the lowest one first.
func Number(n, width int) string {
	var s strings.Builder
	for k := range width {
		s.WriteByte('0' + byte(n>>k&1))
	}
	return s.String()
}

// Lengths is some that may be a code, with symbols without one between.
func Lengths(dice func(int) int) []int {
	w := make([]int, 1+dice(1+dice(320)))
	for i := range w {
		w[i] = max(0, dice(1+1<<dice(25))-dice(6))
	}
	w[dice(len(w))] = 1
	// They aren't refused: there are few weights, and none is great.
	l, _ := weigh.Lengths(w)
	return l
}

// Tokens is each byte of a text as a token.
func Tokens(text string) []api.Token {
	var l []api.Token
	for _, x := range []byte(text) {
		l = append(l, api.Token{Byte: x})
	}
	return l
}

// Packed is the bytes of the block of tokens.
func Packed(l []api.Token) []byte {
	var w bits.Writer
	if block.Put(&w, l) != api.OK {
		panic("no block")
	}
	return w.Bytes()
}

// Streamed is a payload of these pieces.
func Streamed(pieces ...string) []byte {
	var area []byte
	for _, p := range pieces {
		area = append(area, byte(len(p)), byte(len(p)>>8))
		area = append(area, p...)
	}
	return append(area, 0, 0)
}

// File is a file of a text.
func File(name, text string) api.File {
	return api.File{Name: name, Data: []byte(text)}
}

// Files is the files of a map, by names.
func Files(m map[string]string) []api.File {
	var l []api.File
	for _, name := range slices.Sorted(maps.Keys(m)) {
		l = append(l, File(name, m[name]))
	}
	return l
}

// Step is a step of a text.
func Step(kind int, name, text string) api.Op {
	return api.Op{Kind: kind, Name: name, Data: []byte(text)}
}

// Content is all bytes that a file's sectors have: none, if it isn't there.
func Content(f *crashfs.FS, name string) []byte {
	id, e := f.Open(name)
	if e != api.OK {
		return nil
	}
	b, _ := f.Read(id, 0, api.Sector*f.Size(id))
	return b
}

// Laid is bytes of which records stand from 1024 on, and what these are.
type Laid struct {
	C    crc.Table
	B    []byte
	Rows []record.Record
}

// Lay is no records.
func Lay() *Laid {
	return &Laid{C: crc.Make(), B: Bytes(api.Begin, 1)}
}

// lay lays a record behind the others.
func (x *Laid) lay(b []byte, e api.Errno) {
	at := len(x.B)
	x.B = append(x.B, b...)
	r, refused := record.Take(&x.C, x.B, at)
	if e != api.OK || refused != api.OK {
		panic("no record")
	}
	x.Rows = append(x.Rows, r)
}

// Put lays a member of a text.
func (x *Laid) Put(name, text string) {
	x.lay(record.Put(&x.C, name, []byte(text), 1))
}

// Stream lays a streamed member of texts.
func (x *Laid) Stream(name string, texts ...string) {
	var l [][]byte
	for _, s := range texts {
		l = append(l, []byte(s))
	}
	x.lay(record.Stream(&x.C, name, l))
}

// Gone lays a tombstone.
func (x *Laid) Gone(name string) {
	x.lay(stone.Put(&x.C, name))
}

// Any lays so many records of any kind, of eight names.
func (x *Laid) Any(dice func(int) int, many int) {
	for range many {
		name := string(rune('a' + dice(8)))
		switch dice(4) {
		case 0:
			x.Gone(name)
		case 1:
			x.Stream(name, strings.Repeat("s", dice(9)), "t")
		default:
			x.Put(name, strings.Repeat("p", dice(99)))
		}
	}
}

// Several is records of all kinds: a is put three times, and once taken away between, b taken away at last, c streamed, d taken away that was never there.
func Several() *Laid {
	x := Lay()
	x.Put("b", "bb")
	x.Put("a", "first")
	x.Stream("c", "cc", "c")
	x.Gone("a")
	x.Put("a", "second")
	x.Gone("d")
	x.Put("a", strings.Repeat("third", 50))
	x.Put("aa", "")
	x.Gone("b")
	return x
}

// Live is what is live behind records, by the document's words: of each that is a member's, is none of its name behind it?
func Live(rows []record.Record) []api.Member {
	var l []api.Member
	for i, r := range rows {
		last := r.Kind == record.Live
		for _, behind := range rows[i+1:] {
			last = last && behind.Member.Name != r.Member.Name
		}
		if last {
			l = append(l, r.Member)
		}
	}
	slices.SortFunc(l, func(a, b api.Member) int { return strings.Compare(a.Name, b.Name) })
	return l
}

// Refusal is bytes, a place of them, and with which error what should stand there is refused.
type Refusal struct {
	What string
	B    []byte
	At   int
	E    api.Errno
}

// Refusals is how b, which begins with a mark of four bytes and has no such bytes in it again, is refused: where there is no place, where the mark is another one, and where b isn't all there.
func Refusals(b []byte) []Refusal {
	var l []Refusal
	for _, at := range []int{-1, -4, len(b) + 1, len(b) + 2, 1 << 40, math.MinInt, math.MaxInt, math.MaxInt - 3} {
		l = append(l, Refusal{"no place", b, at, api.ErrArg}, Refusal{"no place of nothing", nil, at, api.ErrArg})
	}
	for i := range 4 {
		other := slices.Clone(b)
		other[i] ^= 32
		l = append(l, Refusal{"another mark", other, 0, api.ErrForm}, Refusal{"another mark alone", other[:4], 0, api.ErrForm})
	}
	among := slices.Concat([]byte("ahead"), b, []byte("behind"))
	for n := range b {
		l = append(l, Refusal{"too short", b[:n], 0, api.ErrEnd}, Refusal{"too short, behind others", among[:5+n], 5, api.ErrEnd})
	}
	for at := 1; at <= len(b); at++ {
		e := api.ErrForm
		if len(b)-at < 4 {
			e = api.ErrEnd
		}
		l = append(l, Refusal{"inside", b, at, e})
	}
	return append(l, Refusal{"three others", []byte("xyz"), 0, api.ErrEnd})
}
