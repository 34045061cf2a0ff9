package reader_test

import (
	"bytes"
	"math"
	"slices"
	"strings"
	"testing"

	"bindle/api"
	"bindle/bits"
	"bindle/canon"
	"bindle/codec"
	"bindle/reader"
	"bindle/runs"
	"bindle/sample"
	"bindle/symbol"
	"bindle/tokens"
)

const maxData = 65536

// gives is what a payload gives by the chapter's words: what New refuses, else its bytes, and how it ends.
func gives(method int, area []byte, size int) (b []byte, end, refused api.Errno) {
	switch {
	case method < 0 || method > 2:
		return nil, 0, api.ErrArg
	case size < 0 || size > maxData || method == api.Stored && len(area) != size:
		return nil, 0, api.ErrSize
	case method == api.Stored:
		return area, api.OK, api.OK
	case method == api.Streamed:
		b, end = streamGives(area, size)
		return b, end, api.OK
	}
	return blockGives(area, size)
}

func streamGives(area []byte, size int) ([]byte, api.Errno) {
	var b []byte
	for {
		if len(area) < 2 {
			return b, api.ErrEnd
		}
		n := int(area[0]) + int(area[1])<<8
		area = area[2:]
		switch {
		case n == 0 && len(area) > 0:
			return b, api.ErrForm
		case n == 0 && len(b) < size:
			return b, api.ErrSize
		case n == 0:
			return b, api.OK
		case n > len(area):
			return b, api.ErrEnd
		case len(b)+n > size:
			return b, api.ErrSize
		}
		b = append(b, area[:n]...)
		area = area[n:]
	}
}

func blockGives(area []byte, size int) (b []byte, end, refused api.Errno) {
	r := bits.New(area)
	first, e := runs.Take(r)
	if e != api.OK {
		return nil, 0, e
	}
	second, e := runs.Take(r)
	if e != api.OK {
		return nil, 0, e
	}
	if len(first) != 273 || len(second) != 30 {
		return nil, 0, api.ErrForm
	}
	firsts, e := canon.New(first)
	seconds, e2 := canon.New(second)
	if e != api.OK || e2 != api.OK {
		return nil, 0, api.ErrCodes
	}
	take := func(c *canon.Code, zero int) (symbol.Class, api.Errno) {
		s, e := c.Take(r)
		_, width, _ := symbol.Base(s - zero)
		extra, there := r.Take(width)
		if e == api.OK && !there {
			e = api.ErrEnd
		}
		return symbol.Class{Number: s, Bits: width, Extra: extra}, e
	}
	for {
		row := symbol.Row{}
		row.First, e = take(firsts, 257)
		if e == api.OK && row.First.Number > 256 {
			row.Match = true
			row.Second, e = take(seconds, 0)
		}
		x, right := symbol.Join(row)
		switch {
		case e != api.OK:
			return b, e, api.OK
		case row.First.Number == 256 && len(b) < size:
			return b, api.ErrSize, api.OK
		case row.First.Number == 256 && (r.Left() > 7 || r.Peek(7) != 0):
			return b, api.ErrForm, api.OK
		case row.First.Number == 256:
			return b, api.OK, api.OK
		case !right || x.Dist > len(b):
			return b, api.ErrForm, api.OK
		case len(b)+max(x.Len, 1) > size:
			return b, api.ErrSize, api.OK
		case x.Len == 0:
			b = append(b, x.Byte)
		}
		for range x.Len {
			b = append(b, b[len(b)-x.Dist])
		}
	}
}

func wantNext(t *testing.T, what string, r *reader.Reader, n int, want []byte, e api.Errno) {
	t.Helper()
	at := r.At()
	if b, ge := r.Next(n); !bytes.Equal(b, want) || ge != e || r.At() != at+len(want) {
		t.Fatalf("%s: Next(%d) at %d: %.40x %d, not %.40x %d; then at %d", what, n, at, b, ge, want, e, r.At())
	}
}

func wantDone(t *testing.T, what string, r *reader.Reader, want bool) {
	t.Helper()
	at := r.At()
	if r.Done() != want || r.At() != at {
		t.Fatalf("%s: Done at %d: %t", what, at, !want)
	}
}

// payload is one, and what it gives by the words.
type payload struct {
	t            *testing.T
	what         string
	method       int
	area         []byte
	size         int
	b            []byte
	end, refused api.Errno
}

func payloadOf(t *testing.T, what string, method int, area []byte, size int) *payload {
	b, end, refused := gives(method, area, size)
	return &payload{t, what, method, area, size, b, end, refused}
}

// open is a reader of it.
func (p *payload) open() *reader.Reader {
	p.t.Helper()
	r, e := reader.New(p.method, p.area, p.size)
	if r == nil || e != api.OK || r.At() != 0 {
		p.t.Fatalf("%s: New: %d", p.what, e)
	}
	return r
}

// wantSteps holds what is read step by step.
func (p *payload) wantSteps(step int, ask bool) {
	p.t.Helper()
	r := p.open()
	for at := 0; at < len(p.b); at += min(step, len(p.b)) {
		if ask {
			wantDone(p.t, p.what, r, false)
		}
		wantNext(p.t, p.what, r, step, p.b[at:at+min(step, len(p.b)-at)], api.OK)
	}
	for range 2 {
		wantNext(p.t, p.what, r, step, nil, p.end)
		wantNext(p.t, p.what, r, 0, nil, api.OK)
		wantDone(p.t, p.what, r, p.end == api.OK)
	}
	want := p.b
	if p.end != api.OK {
		want = nil
	}
	if got, e := reader.Whole(p.method, p.area, p.size, step); !bytes.Equal(got, want) || e != p.end {
		p.t.Fatalf("%s: Whole by %d: %.40x %d, not %.40x %d", p.what, step, got, e, want, p.end)
	}
}

// wantPart holds a part.
func (p *payload) wantPart(from, n int) {
	p.t.Helper()
	want, e := p.b[min(from, len(p.b)):], api.OK
	if len(want) < n {
		e = p.end
	}
	want = want[:min(n, len(want))]
	if e != api.OK {
		want = nil
	}
	if got, ge := reader.Part(p.method, p.area, p.size, from, n); !bytes.Equal(got, want) || ge != e {
		p.t.Fatalf("%s: Part(%d, %d): %.40x %d, not %.40x %d", p.what, from, n, got, ge, want, e)
	}
}

// wantRefused holds what New refuses.
func (p *payload) wantRefused() {
	p.t.Helper()
	r, e := reader.New(p.method, p.area, p.size)
	whole, we := reader.Whole(p.method, p.area, p.size, 1)
	part, pe := reader.Part(p.method, p.area, p.size, 0, 0)
	if r != nil || e != p.refused || len(whole) != 0 || we != p.refused || len(part) != 0 || pe != p.refused {
		p.t.Fatalf("%s: New %d, Whole %d, Part %d, not %d", p.what, e, we, pe, p.refused)
	}
}

// wantAll holds all that is read of a payload.
func wantAll(t *testing.T, what string, method int, area []byte, size int) {
	t.Helper()
	kept := bytes.Clone(area)
	p := payloadOf(t, what, method, area, size)
	if p.refused != api.OK {
		p.wantRefused()
		return
	}
	n := len(p.b)
	for _, step := range []int{1, 2, 3, 7, 100, n - 1, n, n + 1, math.MaxInt} {
		if step > n/500 && step > 0 {
			p.wantSteps(step, step%2 == 0)
		}
	}
	var parts [][]byte
	r := p.open()
	for part := range r.All() {
		parts = append(parts, part)
	}
	if want := slices.Collect(slices.Chunk(p.b, 100)); !slices.EqualFunc(parts, want, bytes.Equal) || r.At() != n {
		t.Fatalf("%s: All: %x, not %x", what, parts, want)
	}
	wantNext(t, what, r, 1, nil, p.end)
	for _, from := range []int{0, 1, n / 2, n - 1, n, n + 1, math.MaxInt} {
		for _, many := range []int{0, 1, 2, n - from - 1, n - from, n - from + 1, n, math.MaxInt} {
			if from >= 0 && many >= 0 {
				p.wantPart(from, many)
			}
		}
	}
	if !bytes.Equal(area, kept) {
		t.Fatalf("%s: the area is changed", what)
	}
}

// 36.1

func TestExample(t *testing.T) {
	r, e := reader.New(api.Stored, []byte("abc"), 3)
	if e != api.OK {
		t.Fatal(e)
	}
	wantNext(t, "the example", r, 2, []byte("ab"), api.OK)
	wantDone(t, "the example", r, false)
	wantNext(t, "the example", r, 2, []byte("c"), api.OK)
	wantNext(t, "the example", r, 2, nil, api.OK)
	wantDone(t, "the example", r, true)
}

func TestNewRefused(t *testing.T) {
	stream := sample.Streamed("abc")
	block := sample.Packed(sample.Tokens("abc"))
	for _, x := range []struct {
		what   string
		method int
		area   []byte
		size   int
		e      api.Errno
	}{
		{"no method", -1, stream, 3, api.ErrArg},
		{"no method", 3, stream, 3, api.ErrArg},
		{"no method", math.MinInt, stream, -1, api.ErrArg},
		{"no method, and no size", math.MaxInt, nil, maxData + 1, api.ErrArg},
		{"below 0", api.Stored, nil, -1, api.ErrSize},
		{"too many", api.Stored, make([]byte, maxData+1), maxData + 1, api.ErrSize},
		{"below 0", api.Packed, block, -1, api.ErrSize},
		{"too many", api.Packed, block, maxData + 1, api.ErrSize},
		{"too many, and no block", api.Packed, nil, maxData + 1, api.ErrSize},
		{"below 0", api.Streamed, stream, math.MinInt, api.ErrSize},
		{"too many", api.Streamed, stream, math.MaxInt, api.ErrSize},
		{"fewer", api.Stored, []byte("ab"), 3, api.ErrSize},
		{"more", api.Stored, []byte("abcd"), 3, api.ErrSize},
		{"more than none", api.Stored, []byte("a"), 0, api.ErrSize},
		{"no bits", api.Packed, nil, 3, api.ErrEnd},
		{"no first table", api.Packed, []byte{0, 0, 0, 0}, 3, api.ErrSize},
		{"all bits 1", api.Packed, bytes.Repeat([]byte{255}, 200), 3, api.ErrSize},
		{"no code", api.Packed, append([]byte{17, 1}, make([]byte, 20)...), 3, api.ErrCodes},
	} {
		if _, _, e := gives(x.method, x.area, x.size); e != x.e {
			t.Errorf("%s: %d is told by the words, not %d", x.what, e, x.e)
		}
		wantAll(t, x.what, x.method, x.area, x.size)
	}
	// What block.Take refuses ahead of the first token.
	for n := range block {
		wantAll(t, "cut", api.Packed, block[:n], 3)
	}
}

// table is the bits of a table of lengths, in which some symbols have one.
func table(t *testing.T, n int, at map[int]int) string {
	t.Helper()
	l := make([]int, n)
	for s, length := range at {
		l[s] = length
	}
	var w bits.Writer
	if e := runs.Put(&w, l); e != api.OK {
		t.Fatalf("no table: %d", e)
	}
	return sample.Written(&w)
}

// raw is bits as bytes, with bits 0 behind.
func raw(text string) []byte {
	var w bits.Writer
	for _, c := range text {
		w.Put(uint32(c-'0'), 1)
	}
	return w.Bytes()
}

func TestTablesRefused(t *testing.T) {
	first, second := map[int]int{97: 1, 256: 1}, map[int]int{0: 1}
	right, seconds := table(t, 273, first), table(t, 30, second)
	wrong, wrongs := table(t, 273, map[int]int{97: 2, 256: 2}), table(t, 30, map[int]int{0: 1, 1: 1, 2: 1})
	few, more := table(t, 272, first), table(t, 31, second)
	none := sample.Number(0, 9)
	for _, x := range []struct {
		what, bits string
		e          api.Errno
	}{
		{"fine", right + seconds + "01", api.OK},
		{"272", few + seconds, api.ErrForm},
		{"274", table(t, 274, first) + seconds, api.ErrForm},
		{"31", right + more, api.ErrForm},
		{"29", right + table(t, 29, second), api.ErrForm},
		{"the one for the other", seconds + right, api.ErrForm},
		{"272, then none", few + none, api.ErrSize},
		{"no lengths second", right + none, api.ErrSize},
		{"272, and what may not be", few + wrongs, api.ErrForm},
		{"what may not be, and 31", wrong + more, api.ErrForm},
		{"what may not be, first", wrong + seconds, api.ErrCodes},
		{"what may not be, second", right + wrongs, api.ErrCodes},
	} {
		area := raw(x.bits)
		if _, _, e := gives(api.Packed, area, 1); e != x.e {
			t.Errorf("%s: %d is told by the words, not %d", x.what, e, x.e)
		}
		wantAll(t, x.what, api.Packed, area, 1)
		wantAll(t, x.what, api.Packed, area, 0)
	}
}

func TestStored(t *testing.T) {
	wantAll(t, "none", api.Stored, nil, 0)
	for _, n := range []int{1, 2, 99, 100, 101, 200, 250} {
		wantAll(t, "stored", api.Stored, sample.Bytes(n, 1), n)
	}
	wantAll(t, "as many as there may be", api.Stored, sample.Bytes(maxData, 2), maxData)
}

func TestStreamed(t *testing.T) {
	for _, x := range []struct {
		what string
		area []byte
		size int
		b    string
		end  api.Errno
	}{
		{"none", sample.Streamed(), 0, "", api.OK},
		{"fewer than one", sample.Streamed(), 1, "", api.ErrSize},
		{"nothing", nil, 0, "", api.ErrEnd},
		{"half a length", []byte{0}, 0, "", api.ErrEnd},
		{"a piece", sample.Streamed("abc"), 3, "abc", api.OK},
		{"pieces", sample.Streamed("abc", "d", "ef"), 6, "abcdef", api.OK},
		{"a piece too many", sample.Streamed("abc", "d", "ef"), 5, "abcd", api.ErrSize},
		{"a byte too many, of the first piece", sample.Streamed("abc", "d"), 2, "", api.ErrSize},
		{"a byte too few", sample.Streamed("abc", "d", "ef"), 7, "abcdef", api.ErrSize},
		{"something behind", append(sample.Streamed("abc", "d"), 1), 4, "abcd", api.ErrForm},
		{"something behind, and too few", append(sample.Streamed("abc", "d"), 0, 0), 5, "abcd", api.ErrForm},
		{"something behind the end alone", append(sample.Streamed(), 0, 0), 0, "", api.ErrForm},
		{"no end", sample.Streamed("abc", "d")[:8], 4, "abcd", api.ErrEnd},
		{"half an end", sample.Streamed("abc", "d")[:9], 4, "abcd", api.ErrEnd},
		{"not all of a piece", sample.Streamed("abc", "def")[:9], 6, "abc", api.ErrEnd},
		{"not all of a piece, which is too many", sample.Streamed("abc", "def")[:9], 4, "abc", api.ErrEnd},
		{"a long piece", sample.Streamed(strings.Repeat("l", 300), "m"), 301, strings.Repeat("l", 300) + "m", api.OK},
		{"a length of two bytes, of which few are there", []byte{0, 255, 1, 2, 3}, 9, "", api.ErrEnd},
	} {
		if b, end, e := gives(api.Streamed, x.area, x.size); string(b) != x.b || end != x.end || e != api.OK {
			t.Errorf("%s: %q %d is told by the words, not %q %d", x.what, b, end, x.b, x.end)
		}
		wantAll(t, x.what, api.Streamed, x.area, x.size)
	}
	b := sample.Bytes(maxData, 3)
	area, _ := codec.Stream([][]byte{b})
	wantAll(t, "as many as there may be", api.Streamed, area, maxData)
}

func TestPacked(t *testing.T) {
	a := sample.Tokens("ab")
	five := api.Token{Len: 5, Dist: 2}
	all := append(slices.Clone(a), five, a[0])
	far := append(slices.Clone(a), api.Token{Len: 3, Dist: 3}, a[0])
	for _, x := range []struct {
		what string
		area []byte
		size int
		b    string
		end  api.Errno
	}{
		{"no tokens", sample.Packed(nil), 0, "", api.OK},
		{"no tokens, though there should be", sample.Packed(nil), 1, "", api.ErrSize},
		{"bytes, and a match", sample.Packed(all), 8, "abababaa", api.OK},
		{"a byte too few", sample.Packed(all), 9, "abababaa", api.ErrSize},
		{"a byte too many", sample.Packed(all), 7, "abababa", api.ErrSize},
		{"a match too long", sample.Packed(all), 6, "ab", api.ErrSize},
		{"the first byte too many", sample.Packed(all), 0, "", api.ErrSize},
		{"too far off", sample.Packed(far), 6, "ab", api.ErrForm},
		{"too far off, and too long", sample.Packed(far), 4, "ab", api.ErrForm},
		{"nothing ahead", sample.Packed([]api.Token{five}), 5, "", api.ErrForm},
		{"a byte behind", append(sample.Packed(all), 0), 8, "abababaa", api.ErrForm},
		{"a byte behind, and too few", append(sample.Packed(all), 0), 9, "abababaa", api.ErrSize},
	} {
		if b, end, e := gives(api.Packed, x.area, x.size); string(b) != x.b || end != x.end || e != api.OK {
			t.Errorf("%s: %q %d is told by the words, not %q %d", x.what, b, end, x.b, x.end)
		}
		wantAll(t, x.what, api.Packed, x.area, x.size)
	}
}

// What is left behind the end is less than a byte, and all 0.
func TestPackedLeft(t *testing.T) {
	head := table(t, 273, map[int]int{97: 1, 256: 1}) + table(t, 30, map[int]int{0: 1})
	for n := range 16 {
		text := head + strings.Repeat("0", n) + "1"
		behind := (8 - len(text)%8) % 8
		area := raw(text)
		wantAll(t, "fine", api.Packed, area, n)
		for bit := range behind {
			other := bytes.Clone(area)
			other[len(other)-1] |= 1 << (7 - bit)
			if _, end, _ := gives(api.Packed, other, n); end != api.ErrForm {
				t.Errorf("a bit behind: %d", end)
			}
			wantAll(t, "a bit behind", api.Packed, other, n)
		}
		wantAll(t, "eight bits behind", api.Packed, append(area, 0), n)
	}
}

// whole is bytes as codes of 2 and of 3 bits, ahead of other bits, such that all together are whole bytes.
func whole(head, two, three, behind string) []byte {
	for n := 0; ; n++ {
		for threes := range n + 1 {
			text := head + strings.Repeat(three, threes) + strings.Repeat(two, n-threes)
			if n > 12 && len(text+behind)%8 == 0 {
				return raw(text + behind)
			}
		}
	}
}

// Bits lack at any place of a match, and behind it.
func TestPackedBitsLack(t *testing.T) {
	// a: 10, b: 110, 256: 111, 272: 0, with 6 bits; of the second alphabet 4: 0 and 7: 1, with 1 and 2 bits
	head := table(t, 273, map[int]int{'a': 2, 'b': 3, 256: 3, 272: 1}) + table(t, 30, map[int]int{4: 1, 7: 1})
	for _, match := range []string{"0" + sample.Number(63, 6) + "0" + "1", "0" + sample.Number(5, 6) + "1" + "00"} {
		for n := range len(match) + 1 {
			area := whole(head, "10", "110", match[:n])
			p := payloadOf(t, "bits lack", api.Packed, area, 1000)
			if p.end != api.ErrEnd || len(p.b) < 8 {
				t.Errorf("of %d bits of a match: %d by the words", n, p.end)
			}
			wantAll(t, "bits lack", api.Packed, area, 1000)
		}
		for n := range 3 {
			wantAll(t, "half an end", api.Packed, whole(head, "10", "110", match+"111"[:n]), 1000)
		}
		area := whole(head, "10", "110", match+"111")
		p := payloadOf(t, "all bits", api.Packed, area, 1000)
		if p.end != api.ErrSize {
			t.Errorf("all bits: %d by the words", p.end)
		}
		wantAll(t, "all bits", api.Packed, area, len(p.b))
	}
}

func TestPackedCodes(t *testing.T) {
	alone := table(t, 273, map[int]int{97: 1}) + table(t, 30, map[int]int{3: 1})
	for n := range 20 {
		wantAll(t, "no end of bytes", api.Packed, raw(alone+strings.Repeat("0", n)), n+8)
		wantAll(t, "no code", api.Packed, raw(alone+strings.Repeat("0", n)+"1"), n+8)
	}
	head := table(t, 273, map[int]int{'a': 2, 256: 2, 257: 1}) + table(t, 30, map[int]int{2: 1})
	wantAll(t, "no code of the second alphabet", api.Packed, raw(head+"101010"+"01"+"11"), 6)
	wantAll(t, "a code of the second alphabet", api.Packed, raw(head+"101010"+"00"+"11"), 6)
}

func TestNextOfFew(t *testing.T) {
	for method, area := range [][]byte{[]byte("abcabcabcabc"), sample.Packed(tokens.Split([]byte("abcabcabcabc"), 1)), sample.Streamed("abc", "abcab", "cabc")} {
		r, _ := reader.New(method, area, 12)
		for _, n := range []int{0, -1, math.MinInt} {
			wantNext(t, "none at first", r, n, nil, api.OK)
		}
		wantNext(t, "some", r, 4, []byte("abca"), api.OK)
		for _, n := range []int{0, -1, math.MinInt} {
			wantNext(t, "none between", r, n, nil, api.OK)
		}
		wantDone(t, "between", r, false)
		wantNext(t, "all others", r, math.MaxInt, []byte("bcabcabc"), api.OK)
		for _, n := range []int{0, -1, math.MinInt, 1, 100, math.MaxInt} {
			wantNext(t, "none behind", r, n, nil, api.OK)
		}
		wantDone(t, "behind", r, true)
	}
}

func TestDoneLooksAhead(t *testing.T) {
	for _, x := range []struct {
		area []byte
		done bool
		end  api.Errno
	}{{sample.Streamed("abc"), true, api.OK}, {append(sample.Streamed("abc"), 0), false, api.ErrForm}, {sample.Streamed("abc", "d"), false, api.ErrSize}, {sample.Streamed("abc")[:5], false, api.ErrEnd}} {
		r, _ := reader.New(api.Streamed, x.area, 3)
		wantDone(t, "at first", r, false)
		wantNext(t, "all", r, 3, []byte("abc"), api.OK)
		wantDone(t, "all", r, x.done)
		wantNext(t, "behind", r, 1, nil, x.end)
		wantDone(t, "behind", r, x.done)
	}
	r, _ := reader.New(api.Streamed, sample.Streamed(), 0)
	wantDone(t, "of nothing", r, true)
	r, _ = reader.New(api.Streamed, sample.Streamed("ab", "c"), 3)
	wantNext(t, "a piece", r, 2, []byte("ab"), api.OK)
	wantDone(t, "a piece", r, false)
	wantNext(t, "the other one", r, 2, []byte("c"), api.OK)
}

func TestAll(t *testing.T) {
	b := sample.Bytes(350, 9)
	r, _ := reader.New(api.Stored, b, 350)
	all := r.All()
	wantNext(t, "ahead", r, 30, b[:30], api.OK)
	for p := range all {
		if !bytes.Equal(p, b[30:130]) || r.At() != 130 {
			t.Fatalf("the first part: %x, at %d", p, r.At())
		}
		clear(p)
		break
	}
	wantNext(t, "between", r, 10, b[130:140], api.OK)
	n := 140
	for p := range all {
		if !bytes.Equal(p, b[n:min(n+100, 350)]) {
			t.Fatalf("a part: %x", p)
		}
		n += len(p)
	}
	if n != 350 || r.At() != 350 {
		t.Errorf("at %d, %d", n, r.At())
	}
	for range all {
		t.Error("something behind")
	}
	wantDone(t, "all", r, true)
}

func TestANilReader(t *testing.T) {
	var r *reader.Reader
	for _, n := range []int{math.MinInt, -1, 0, 1, math.MaxInt} {
		wantNext(t, "nil", r, n, nil, api.ErrArg)
	}
	wantDone(t, "nil", r, false)
	if r.At() != 0 {
		t.Errorf("at %d", r.At())
	}
	for range r.All() {
		t.Error("it has something")
	}
}

// What was told may be changed: what is behind is made of the reader's own bytes.
func TestAnswersAreNewMemory(t *testing.T) {
	b := []byte(strings.Repeat("abcdef", 100))
	for method, area := range [][]byte{b, sample.Packed(tokens.Split(b, 1)), sample.Streamed(string(b[:300]), string(b[300:]))} {
		r, e := reader.New(method, bytes.Clone(area), len(b))
		if e != api.OK {
			t.Fatal(e)
		}
		for at := 0; at < len(b); at += 7 {
			p, _ := r.Next(7)
			if !bytes.Equal(p, b[at:min(at+7, len(b))]) {
				t.Fatalf("method %d, at %d: %q", method, at, p)
			}
			clear(p)
		}
		other := bytes.Clone(area)
		whole, _ := reader.Whole(method, other, len(b), 5)
		part, _ := reader.Part(method, other, len(b), 5, 50)
		clear(other)
		if !bytes.Equal(whole, b) || !bytes.Equal(part, b[5:55]) {
			t.Errorf("method %d: an answer isn't new memory", method)
		}
	}
}

// 36.2

func TestWholeRefused(t *testing.T) {
	for _, step := range []int{0, -1, math.MinInt} {
		for _, method := range []int{-1, 0, 1, 2} {
			if b, e := reader.Whole(method, []byte("abc"), 3, step); len(b) != 0 || e != api.ErrArg {
				t.Errorf("by %d: %x %d", step, b, e)
			}
		}
		if b, e := reader.Whole(api.Stored, []byte("abc"), -1, step); len(b) != 0 || e != api.ErrArg {
			t.Errorf("by %d: %x %d", step, b, e)
		}
	}
}

func TestPartRefused(t *testing.T) {
	for _, x := range []struct{ from, n int }{{-1, 1}, {1, -1}, {-1, -1}, {math.MinInt, 0}, {0, math.MinInt}} {
		for _, method := range []int{-1, 0, 1, 2} {
			for _, size := range []int{-1, 3} {
				if b, e := reader.Part(method, []byte("abc"), size, x.from, x.n); len(b) != 0 || e != api.ErrArg {
					t.Errorf("%v: %x %d", x, b, e)
				}
			}
		}
	}
}

// What stands behind a part isn't looked at; where bytes lack, it is told how the payload ends.
func TestPart(t *testing.T) {
	spoilt := append(sample.Streamed("abc", "def"), 7)
	for _, x := range []struct {
		area    []byte
		from, n int
		want    string
		e       api.Errno
	}{
		{spoilt, 0, 6, "abcdef", api.OK},
		{spoilt, 0, 7, "", api.ErrForm},
		{spoilt, 2, 2, "cd", api.OK},
		{spoilt, 5, 1, "f", api.OK},
		{spoilt, 5, 2, "", api.ErrForm},
		{spoilt, 6, 0, "", api.OK},
		{spoilt, 6, 1, "", api.ErrForm},
		{spoilt, 9, 0, "", api.OK},
		{spoilt, 9, 1, "", api.ErrForm},
		{spoilt[:10], 0, 3, "abc", api.OK},
		{spoilt[:9], 2, 1, "c", api.OK},
		{spoilt[:9], 2, 2, "", api.ErrEnd},
		{spoilt[:12], 4, 9, "ef", api.OK},
		{spoilt[:12], 6, 9, "", api.OK},
		{spoilt[:12], math.MaxInt, math.MaxInt, "", api.OK},
		{spoilt[:12], 3, math.MaxInt, "def", api.OK},
	} {
		if b, e := reader.Part(api.Streamed, x.area, 6, x.from, x.n); string(b) != x.want || e != x.e {
			t.Errorf("Part(%d, %d): %q %d, not %q %d", x.from, x.n, b, e, x.want, x.e)
		}
	}
}

// 36.3

func plain(dice func(int) int, n int) []byte {
	b := make([]byte, n)
	kinds := 1 + dice(20)
	for i := range b {
		b[i] = byte(dice(kinds))
	}
	return b
}

// wantUnpacked holds what is read against what codec unpacks.
func wantUnpacked(t *testing.T, method int, area []byte, size, step int) {
	t.Helper()
	want, we := codec.Unpack(method, area, size)
	b, e := reader.Whole(method, area, size, step)
	if we == api.OK && (!bytes.Equal(b, want) || e != api.OK) || we != api.OK && (len(b) != 0 || e == api.OK) {
		t.Fatalf("%d: %.60x of %d: %d bytes, %d, not %d bytes, %d", method, area, size, len(b), e, len(want), we)
	}
}

func TestWholeIsWhatIsUnpacked(t *testing.T) {
	dice := sample.Dice(36)
	for range 40 {
		b := plain(dice, dice(4000))
		stream, _ := codec.Stream([][]byte{b[:len(b)/3], b[len(b)/3:]})
		for method, area := range [][]byte{b, sample.Packed(tokens.Split(b, dice(4))), stream} {
			for _, step := range []int{1, 1 + dice(300), 5000} {
				wantUnpacked(t, method, area, len(b), step)
			}
			wantAll(t, "right", method, area, len(b))
		}
	}
	b := plain(dice, maxData)
	wantUnpacked(t, api.Packed, sample.Packed(tokens.Split(b, 1)), maxData, 1000)
}

func TestAnything(t *testing.T) {
	dice := sample.Dice(37)
	ends := map[api.Errno]int{}
	for range 1500 {
		b := plain(dice, dice(200))
		stream, _ := codec.Stream([][]byte{b[:len(b)/3], b[len(b)/3:]})
		for method, area := range [][]byte{b, sample.Packed(tokens.Split(b, 3)), stream} {
			for range 1 + dice(3) {
				if len(area) > 0 {
					area[dice(len(area))] ^= 1 << dice(8)
				}
			}
			area = area[:len(area)-min(len(area), max(0, dice(5)-3))]
			size := max(0, len(b)+dice(3)-1)
			wantAll(t, "anything", method, area, size)
			wantUnpacked(t, method, area, size, 1+dice(50))
			_, end, e := gives(method, area, size)
			ends[end]++
			ends[100+e]++
		}
	}
	for _, e := range []api.Errno{api.OK, api.ErrEnd, api.ErrForm, api.ErrSize, 100, 100 + api.ErrCodes, 100 + api.ErrForm} {
		if ends[e] < 5 {
			t.Errorf("error %d: but %d times", e, ends[e])
		}
	}
}
