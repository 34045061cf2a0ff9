package bits_test

import (
	"bytes"
	"math"
	"testing"

	"bindle/bits"
	"bindle/sample"
)

// counted is how many bits a number has for a count that is handed in, by the chapter's words.
var counted = []struct{ asked, is int }{
	{0, 0}, {1, 1}, {2, 2}, {3, 3}, {5, 5}, {7, 7}, {8, 8}, {9, 9}, {15, 15}, {16, 16}, {17, 17}, {23, 23}, {24, 24}, {25, 25}, {31, 31}, {32, 32},
	{-1, 0}, {-8, 0}, {-32, 0}, {-1 << 32, 0}, {math.MinInt, 0},
	{33, 32}, {40, 32}, {64, 32}, {1 << 32, 32}, {1<<32 + 3, 32}, {math.MaxInt, 32},
}

var numbers = []uint32{0, 1, 2, 5, 0x80, 0xff, 0x100, 0x8001, 0xaaaaaaaa, 0x55555555, 0x12345678, 0x80000001, 0xdeadbeef, 0xfffffffe, 0xffffffff}

// spread is the lowest bits of n, so many, one by one.
func spread(n uint32, count int) []bool {
	var l []bool
	for k := range count {
		l = append(l, n>>k&1 == 1)
	}
	return l
}

// gather is the bytes that have these bits, by the chapter's words: the place 8 i + k is that of byte i with the value 2^k.
func gather(l []bool) []byte {
	b := make([]byte, (len(l)+7)/8)
	for place, on := range l {
		if on {
			b[place/8] += 1 << (place % 8)
		}
	}
	return b
}

// numberAt is the number of the bits from a place on, so many; those that aren't there are 0.
func numberAt(b []byte, place, count int) uint32 {
	var n uint32
	for k := range count {
		if at := place + k; at < 8*len(b) && b[at/8]>>(at%8)&1 == 1 {
			n += 1 << k
		}
	}
	return n
}

func wantBytes(t *testing.T, what string, got, want []byte) {
	t.Helper()
	if !bytes.Equal(got, want) {
		t.Errorf("%s: %x, not %x", what, got, want)
	}
}

func wantWriter(t *testing.T, what string, w *bits.Writer, count int, want []byte) {
	t.Helper()
	wantBytes(t, what, w.Bytes(), want)
	if w.Len() != count {
		t.Errorf("%s: %d bits, not %d", what, w.Len(), count)
	}
}

func wantReader(t *testing.T, what string, r *bits.Reader, at, left int) {
	t.Helper()
	if r.At() != at || r.Left() != left {
		t.Errorf("%s: at %d, left %d, not at %d, left %d", what, r.At(), r.Left(), at, left)
	}
}

func wantPeek(t *testing.T, what string, r *bits.Reader, count int, want uint32) {
	t.Helper()
	if got := r.Peek(count); got != want {
		t.Errorf("%s: Peek(%d): %x, not %x", what, count, got, want)
	}
}

func wantTake(t *testing.T, what string, r *bits.Reader, count int, want uint32, there bool) {
	t.Helper()
	if got, ok := r.Take(count); got != want || ok != there {
		t.Errorf("%s: Take(%d): %x %t, not %x %t", what, count, got, ok, want, there)
	}
}

func wantSkip(t *testing.T, what string, r *bits.Reader, count int, there bool) {
	t.Helper()
	if ok := r.Skip(count); ok != there {
		t.Errorf("%s: Skip(%d): %t, not %t", what, count, ok, there)
	}
}

// 3.1

func TestPutExample(t *testing.T) {
	var w bits.Writer
	w.Put(5, 3)
	w.Put(1, 1)
	wantWriter(t, "the example", &w, 4, []byte{13})
}

func TestPutOne(t *testing.T) {
	for _, n := range numbers {
		for _, c := range counted {
			var w bits.Writer
			w.Put(n, c.asked)
			wantWriter(t, "one number", &w, c.is, gather(spread(n, c.is)))
		}
	}
}

// Each number is put behind each count of bits that may stand in the last byte.
func TestPutBehindOthers(t *testing.T) {
	for ahead := range 17 {
		for _, n := range numbers {
			for _, c := range counted {
				var w bits.Writer
				w.Put(0xffff5a5a, ahead)
				w.Put(n, c.asked)
				w.Put(6, 3)
				l := append(spread(0xffff5a5a, ahead), spread(n, c.is)...)
				l = append(l, spread(6, 3)...)
				wantWriter(t, "behind others", &w, len(l), gather(l))
			}
		}
	}
}

// What stands above the lowest bits must not come through behind them.
func TestPutOnlyTheLowest(t *testing.T) {
	var w bits.Writer
	w.Put(0xffffffff, 1)
	w.Put(0, 2)
	w.Put(0xffffffff, 0)
	w.Put(0xffffffff, -3)
	w.Put(0, 5)
	w.Put(0xfffffff0, 8)
	wantWriter(t, "the lowest ones", &w, 16, []byte{1, 0xf0})
}

func TestBytesOnTheWay(t *testing.T) {
	var w bits.Writer
	var l []bool
	for i, n := range numbers {
		count := 3*i + 1
		w.Put(n, count)
		l = append(l, spread(n, min(count, 32))...)
		wantWriter(t, "on the way", &w, len(l), gather(l))
		wantWriter(t, "told anew", &w, len(l), gather(l))
	}
}

func TestBytesAreNewMemory(t *testing.T) {
	for _, count := range []int{1, 7, 8, 9, 16, 20} {
		var w bits.Writer
		w.Put(0xabcdef, count)
		want := gather(spread(0xabcdef, count))
		got := w.Bytes()
		got = got[:cap(got)]
		for i := range got {
			got[i] = 77
		}
		wantWriter(t, "behind a change of an answer", &w, count, want)
		kept := w.Bytes()
		w.Put(0xffffffff, 32)
		wantBytes(t, "an answer, behind another number", kept, want)
	}
}

func TestWriterAlign(t *testing.T) {
	for count := range 26 {
		var w bits.Writer
		w.Put(0x3ffffff, count)
		w.Align()
		full := (count + 7) / 8 * 8
		want := gather(spread(0x3ffffff, count))
		wantWriter(t, "aligned", &w, full, want)
		w.Align()
		wantWriter(t, "aligned twice", &w, full, want)
		w.Put(0x81, 8)
		wantWriter(t, "a number behind", &w, full+8, append(want, 0x81))
	}
}

func TestZeroWriter(t *testing.T) {
	var w bits.Writer
	wantWriter(t, "a zero one", &w, 0, nil)
	w.Align()
	wantWriter(t, "a zero one, aligned", &w, 0, nil)
	w.Put(0xffffffff, 0)
	wantWriter(t, "no bits", &w, 0, nil)
}

func TestNilWriter(t *testing.T) {
	var w *bits.Writer
	for _, c := range counted {
		w.Put(0xffffffff, c.asked)
		w.Align()
		wantWriter(t, "a nil one", w, 0, nil)
	}
}

// 3.2

func TestNew(t *testing.T) {
	wantReader(t, "of nil", bits.New(nil), 0, 0)
	wantReader(t, "of no bytes", bits.New([]byte{}), 0, 0)
	wantReader(t, "of one", bits.New([]byte{255}), 0, 8)
	wantReader(t, "of five", bits.New(sample.Bytes(5, 1)), 0, 40)
}

// The chapter doesn't say that b is kept.
func TestNewKeepsNothing(t *testing.T) {
	b := []byte{1, 2, 3}
	r := bits.New(b)
	b[0], b[1], b[2] = 9, 9, 9
	wantTake(t, "behind a change of what was handed in", r, 24, 0x030201, true)
}

func TestTakeExample(t *testing.T) {
	r := bits.New([]byte{13})
	wantTake(t, "the example back", r, 3, 5, true)
	wantReader(t, "behind three", r, 3, 5)
	wantTake(t, "the example back", r, 1, 1, true)
	wantReader(t, "behind four", r, 4, 4)
	wantTake(t, "what is left", r, 4, 0, true)
	wantReader(t, "at the end", r, 8, 0)
}

// Each place, each count: Peek, Take and Skip from there on.
func TestReadEachPlace(t *testing.T) {
	for _, b := range [][]byte{nil, {0xff}, sample.Bytes(2, 2), bytes.Repeat([]byte{255}, 5), sample.Bytes(7, 3)} {
		all := 8 * len(b)
		for place := range all + 1 {
			for _, c := range counted {
				want := numberAt(b, place, c.is)
				there := place+c.is <= all
				at := place
				if there {
					at += c.is
				}

				r := readerAt(t, b, place)
				wantPeek(t, "at each place", r, c.asked, want)
				wantReader(t, "behind Peek", r, place, all-place)
				wantSkip(t, "at each place", r, c.asked, there)
				wantReader(t, "behind Skip", r, at, all-at)

				r = readerAt(t, b, place)
				if !there {
					want = 0
				}
				wantTake(t, "at each place", r, c.asked, want, there)
				wantReader(t, "behind Take", r, at, all-at)
			}
		}
	}
}

func readerAt(t *testing.T, b []byte, place int) *bits.Reader {
	t.Helper()
	r := bits.New(b)
	for range place {
		wantSkip(t, "one by one", r, 1, true)
	}
	wantReader(t, "one by one", r, place, 8*len(b)-place)
	return r
}

// Whoever was refused may take fewer.
func TestTakeFewerBehindARefusal(t *testing.T) {
	r := bits.New([]byte{0xff, 0x2a})
	wantTake(t, "ten", r, 10, 0x2ff, true)
	wantTake(t, "one too many", r, 7, 0, false)
	wantSkip(t, "one too many", r, 7, false)
	wantPeek(t, "one more than there is", r, 7, 0x0a)
	wantTake(t, "what is left", r, 6, 0x0a, true)
	wantTake(t, "none at the end", r, 0, 0, true)
	wantTake(t, "below none at the end", r, -1, 0, true)
	wantSkip(t, "none at the end", r, 0, true)
	wantTake(t, "one at the end", r, 1, 0, false)
	wantSkip(t, "one at the end", r, 1, false)
	wantPeek(t, "at the end", r, 32, 0)
	wantReader(t, "at the end", r, 16, 0)
}

func TestReadOnlyWhatIsThere(t *testing.T) {
	r := bits.New([]byte{255, 255, 255, 255}[:1])
	wantPeek(t, "bits behind b", r, 32, 0xff)
	wantTake(t, "bits behind b", r, 9, 0, false)
}

func TestReaderAlign(t *testing.T) {
	b := sample.Bytes(3, 4)
	for place := range 25 {
		r := readerAt(t, b, place)
		r.Align()
		full := (place + 7) / 8 * 8
		wantReader(t, "aligned", r, full, 24-full)
		r.Align()
		wantReader(t, "aligned twice", r, full, 24-full)
		if full < 24 {
			wantTake(t, "a byte behind", r, 8, uint32(b[full/8]), true)
		}
	}
}

func TestReaderAlignOfNothing(t *testing.T) {
	r := bits.New(nil)
	r.Align()
	wantReader(t, "of nothing", r, 0, 0)
}

func TestReaderChangesNothing(t *testing.T) {
	b := sample.Bytes(6, 5)
	kept := bytes.Clone(b)
	r := bits.New(b)
	r.Take(7)
	r.Peek(32)
	r.Skip(2)
	r.Align()
	wantBytes(t, "what was handed in", b, kept)
}

func TestNilReader(t *testing.T) {
	var r *bits.Reader
	for _, c := range counted {
		wantTake(t, "a nil one", r, c.asked, 0, false)
		wantPeek(t, "a nil one", r, c.asked, 0)
		wantSkip(t, "a nil one", r, c.asked, false)
		r.Align()
		wantReader(t, "a nil one", r, 0, 0)
	}
}

// 3.3

func TestWhatIsPutIsTaken(t *testing.T) {
	for ahead := range 9 {
		var w bits.Writer
		w.Put(0, ahead)
		for _, n := range numbers {
			for _, c := range counted {
				w.Put(n, c.asked)
			}
		}
		r := bits.New(w.Bytes())
		wantSkip(t, "what is ahead", r, ahead, true)
		for _, n := range numbers {
			for _, c := range counted {
				want := uint32(uint64(n) % (1 << c.is))
				wantPeek(t, "what was put", r, c.asked, want)
				wantTake(t, "what was put", r, c.asked, want, true)
			}
		}
		if r.At() != w.Len() || r.Left() >= 8 {
			t.Errorf("at %d of %d, left %d", r.At(), w.Len(), r.Left())
		}
	}
}

func TestWhatIsPutAlignedIsTaken(t *testing.T) {
	var w bits.Writer
	for i, n := range numbers {
		w.Put(n, i)
		w.Align()
	}
	r := bits.New(w.Bytes())
	for i, n := range numbers {
		wantTake(t, "what was put", r, i, n%(1<<i), true)
		r.Align()
	}
	wantReader(t, "all of it", r, w.Len(), 0)
}
