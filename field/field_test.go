package field_test

import (
	"bytes"
	"math"
	"testing"

	"bindle/field"
)

// numbers are such as have bytes that are unlike, few bits, many, and none.
var numbers = []uint32{0, 1, 127, 128, 255, 256, 257, 513, 0xffff, 0x10000, 0x01020304, 0x80000000, 0xdeadbeef, 0xffffff, 0xfffffffe, 0xffffffff}

// counted is how many bytes a number has for a count that is handed in, by the chapter's words.
var counted = []struct{ asked, is int }{
	{1, 1}, {2, 2}, {3, 3}, {4, 4},
	{0, 1}, {-1, 1}, {-4, 1}, {math.MinInt, 1},
	{5, 4}, {8, 4}, {1 << 32, 4}, {1<<32 + 2, 4}, {math.MaxInt, 4},
}

// lowest is the lowest bytes of n, so many.
func lowest(n uint32, bytes int) []byte {
	return []byte{byte(n), byte(n / 256), byte(n / 65536), byte(n / 16777216)}[:bytes]
}

// whole is the number that lowest bytes of n are.
func whole(n uint32, bytes int) uint32 {
	return uint32(uint64(n) % (1 << (8 * bytes)))
}

func wantBytes(t *testing.T, what string, got, want []byte) {
	t.Helper()
	if !bytes.Equal(got, want) {
		t.Errorf("%s: %x, not %x", what, got, want)
	}
}

func wantNumber(t *testing.T, what string, got, want uint32) {
	t.Helper()
	if got != want {
		t.Errorf("%s: %x, not %x", what, got, want)
	}
}

func wantGot(t *testing.T, what string, b []byte, at, bytes int, want uint32, there bool) {
	t.Helper()
	got, ok := field.Get(b, at, bytes)
	if got != want || ok != there {
		t.Errorf("%s: Get(%x, %d, %d): %x %t, not %x %t", what, b, at, bytes, got, ok, want, there)
	}
}

// wantReader holds all that a reader tells of itself against what it should be.
func wantReader(t *testing.T, what string, r *field.Reader, at, left int, fine bool) {
	t.Helper()
	if r.At() != at || r.Left() != left || r.Ok() != fine {
		t.Errorf("%s: at %d, left %d, %t, not at %d, left %d, %t", what, r.At(), r.Left(), r.Ok(), at, left, fine)
	}
}

// 2.1

func TestPutExamples(t *testing.T) {
	wantBytes(t, "the example", field.Put(nil, 513, 2), []byte{1, 2})
	wantBytes(t, "in one byte", field.Put(nil, 513, 1), []byte{1})
	wantBytes(t, "in three", field.Put(nil, 513, 3), []byte{1, 2, 0})
	wantBytes(t, "in four", field.Put(nil, 0x12345678, 4), []byte{0x78, 0x56, 0x34, 0x12})
	wantBytes(t, "behind others", field.Put([]byte{9, 8}, 513, 2), []byte{9, 8, 1, 2})
	wantBytes(t, "behind none", field.Put([]byte{}, 7, 1), []byte{7})
}

func TestPut(t *testing.T) {
	for _, n := range numbers {
		for _, c := range counted {
			for _, ahead := range [][]byte{nil, {}, {0}, {1, 2, 3, 4, 5}} {
				want := append(bytes.Clone(ahead), lowest(n, c.is)...)
				wantBytes(t, "put", field.Put(bytes.Clone(ahead), n, c.asked), want)
			}
		}
	}
}

// Where b's memory goes on behind b, a number may be laid there, but b itself stays.
func TestPutLeavesWhatIsAhead(t *testing.T) {
	for _, room := range []int{0, 1, 4, 100} {
		b := make([]byte, 3, 3+room)
		copy(b, "abc")
		wantBytes(t, "put", field.Put(b, 0x01020304, 4), []byte("abc\x04\x03\x02\x01"))
		wantBytes(t, "what was handed in", b, []byte("abc"))
	}
}

func TestGetExamples(t *testing.T) {
	b := []byte{1, 2, 3, 4, 5}
	wantGot(t, "the example back", b, 0, 2, 513, true)
	wantGot(t, "one", b, 4, 1, 5, true)
	wantGot(t, "three", b, 1, 3, 0x040302, true)
	wantGot(t, "four", b, 1, 4, 0x05040302, true)
	wantGot(t, "full bytes", []byte{255, 255, 255, 255}, 0, 4, 0xffffffff, true)
}

func TestGetEachPlace(t *testing.T) {
	b := []byte{0x11, 0xf2, 0x33, 0x84, 0x55, 0xe6}
	for at := -3; at < len(b)+3; at++ {
		for _, c := range counted {
			if at < 0 || at+c.is > len(b) {
				wantGot(t, "not all there", b, at, c.asked, 0, false)
				continue
			}
			var want uint32
			for k := c.is - 1; k >= 0; k-- {
				want = want*256 + uint32(b[at+k])
			}
			wantGot(t, "there", b, at, c.asked, want, true)
		}
	}
}

func TestGetWhereNothingIs(t *testing.T) {
	for _, at := range []int{math.MinInt, math.MinInt + 3, -1 << 32, -1, 4, 5, 1 << 32, math.MaxInt - 3, math.MaxInt} {
		for _, c := range counted {
			wantGot(t, "no such place", []byte{1, 2, 3, 4}, at, c.asked, 0, false)
		}
	}
	for _, c := range counted {
		wantGot(t, "nil", nil, 0, c.asked, 0, false)
		wantGot(t, "no bytes", []byte{}, 0, c.asked, 0, false)
	}
}

// Bytes behind b, though they lie in its memory, aren't b's.
func TestGetOnlyWhatIsThere(t *testing.T) {
	b := []byte{1, 2, 3, 4, 5, 6}[:3]
	wantGot(t, "half behind b", b, 2, 2, 0, false)
	wantGot(t, "behind b", b, 3, 1, 0, false)
	wantGot(t, "the last one", b, 2, 1, 3, true)
}

func TestGetChangesNothing(t *testing.T) {
	b := []byte{1, 2, 3, 4, 5}
	field.Get(b, 0, 4)
	field.Get(b, 3, 4)
	wantBytes(t, "what was handed in", b, []byte{1, 2, 3, 4, 5})
}

// 2.2

func TestNew(t *testing.T) {
	wantReader(t, "of nil", field.New(nil), 0, 0, true)
	wantReader(t, "of no bytes", field.New([]byte{}), 0, 0, true)
	wantReader(t, "of five", field.New([]byte("abcde")), 0, 5, true)
}

func TestNumber(t *testing.T) {
	for _, c := range counted {
		r := field.New([]byte{1, 2, 3, 4, 5, 6, 7, 8, 9})
		wantNumber(t, "the first", r.Number(c.asked), whole(0x04030201, c.is))
		wantReader(t, "behind the first", r, c.is, 9-c.is, true)
		want, _ := field.Get([]byte{1, 2, 3, 4, 5, 6, 7, 8, 9}, c.is, c.asked)
		wantNumber(t, "the second", r.Number(c.asked), want)
		wantReader(t, "behind the second", r, 2*c.is, 9-2*c.is, true)
	}
}

func TestNumberToTheEnd(t *testing.T) {
	for _, c := range counted {
		r := field.New(lowest(0x89abcdef, c.is))
		wantNumber(t, "all of it", r.Number(c.asked), whole(0x89abcdef, c.is))
		wantReader(t, "at the end", r, c.is, 0, true)
		wantNumber(t, "behind the end", r.Number(c.asked), 0)
		wantReader(t, "behind the end", r, c.is, 0, false)
	}
}

func TestNumberNotAllThere(t *testing.T) {
	for _, c := range counted {
		for have := range c.is {
			b := append([]byte{7, 7}, bytes.Repeat([]byte{255}, have)...)
			r := field.New(b)
			r.Seek(2)
			wantNumber(t, "not all there", r.Number(c.asked), 0)
			wantReader(t, "not all there", r, 2, have, false)
		}
	}
}

func TestBytes(t *testing.T) {
	r := field.New([]byte("abcdef"))
	wantBytes(t, "none", r.Bytes(0), nil)
	wantReader(t, "behind none", r, 0, 6, true)
	wantBytes(t, "two", r.Bytes(2), []byte("ab"))
	wantReader(t, "behind two", r, 2, 4, true)
	wantBytes(t, "one", r.Bytes(1), []byte("c"))
	wantBytes(t, "what is left", r.Bytes(3), []byte("def"))
	wantReader(t, "at the end", r, 6, 0, true)
	wantBytes(t, "none at the end", r.Bytes(0), nil)
	wantReader(t, "none at the end", r, 6, 0, true)
	wantBytes(t, "one too many", r.Bytes(1), nil)
	wantReader(t, "one too many", r, 6, 0, false)
}

func TestBytesNotAllThere(t *testing.T) {
	for _, n := range []int{5, 6, 1 << 32, math.MaxInt - 1, math.MaxInt, -1, -2, -1 << 32, math.MinInt} {
		r := field.New([]byte("abcdef"))
		r.Bytes(2)
		wantBytes(t, "not all there", r.Bytes(n), nil)
		wantReader(t, "not all there", r, 2, 4, false)
	}
}

func TestBytesAreNewMemory(t *testing.T) {
	b := []byte("abcdefgh")
	r := field.New(b)
	first := r.Bytes(3)
	behind := r.Bytes(3)
	first = first[:cap(first)]
	for i := range first {
		first[i] = '!'
	}
	wantBytes(t, "another answer", behind, []byte("def"))
	wantBytes(t, "what was handed in", b, []byte("abcdefgh"))
	if _ = append(behind, '?'); b[6] != 'g' {
		t.Errorf("what was put behind an answer is handed in's: %s", b)
	}
	b[3] = '#'
	wantBytes(t, "an answer, behind a change of what was handed in", behind, []byte("def"))
	r.Seek(0)
	wantBytes(t, "told anew", r.Bytes(3), []byte("abc"))
}

// What is kept is b itself, not a copy of it.
func TestNewKeeps(t *testing.T) {
	b := []byte{1, 2, 3, 4}
	r := field.New(b)
	b[0], b[2] = 77, 78
	wantNumber(t, "a number of what was changed", r.Number(1), 77)
	wantBytes(t, "bytes of what was changed", r.Bytes(2), []byte{2, 78})
}

func TestSeek(t *testing.T) {
	b := []byte{10, 11, 12, 13, 14}
	r := field.New(b)
	for _, at := range []int{3, 0, 5, 1, 4, 4, 2} {
		r.Seek(at)
		wantReader(t, "sought", r, at, len(b)-at, true)
		if at < len(b) {
			wantNumber(t, "read from there on", r.Number(1), uint32(b[at]))
			wantReader(t, "read from there on", r, at+1, len(b)-at-1, true)
		}
	}
	r = field.New(nil)
	r.Seek(0)
	wantReader(t, "to the end of nothing", r, 0, 0, true)
}

func TestSeekToTheEnd(t *testing.T) {
	r := field.New([]byte{1, 2, 3})
	r.Seek(3)
	wantReader(t, "to the end", r, 3, 0, true)
	wantNumber(t, "nothing there", r.Number(1), 0)
	wantReader(t, "nothing there", r, 3, 0, false)
}

func TestSeekNowhere(t *testing.T) {
	for _, at := range []int{-1, -2, -1 << 32, math.MinInt, 4, 5, 1 << 32, 1<<32 + 1, math.MaxInt} {
		r := field.New([]byte{1, 2, 3})
		r.Number(1)
		r.Seek(at)
		wantReader(t, "nowhere", r, 1, 2, false)
		wantNumber(t, "behind nowhere", r.Number(1), 0)
		wantBytes(t, "behind nowhere", r.Bytes(1), nil)
	}
	r := field.New(nil)
	r.Seek(1)
	wantReader(t, "behind nothing", r, 0, 0, false)
}

func TestNilReader(t *testing.T) {
	var r *field.Reader
	for _, n := range []int{math.MinInt, -1, 0, 1, 4, math.MaxInt} {
		wantNumber(t, "a number", r.Number(n), 0)
		wantBytes(t, "bytes", r.Bytes(n), nil)
		r.Seek(n)
		wantReader(t, "a nil one", r, 0, 0, false)
	}
}

// 2.3

func TestWhatIsPutIsGot(t *testing.T) {
	for _, n := range numbers {
		for _, c := range counted {
			for ahead := range 6 {
				b := field.Put(bytes.Repeat([]byte{170}, ahead), n, c.asked)
				wantGot(t, "what was put", b, ahead, c.asked, whole(n, c.is), true)
			}
		}
	}
}

func TestWhatIsPutIsRead(t *testing.T) {
	var b []byte
	for _, n := range numbers {
		for _, c := range counted {
			b = append(field.Put(b, n, c.asked), "xy"...)
		}
	}
	r := field.New(b)
	for _, n := range numbers {
		for _, c := range counted {
			wantNumber(t, "what was put", r.Number(c.asked), whole(n, c.is))
			wantBytes(t, "what stands behind it", r.Bytes(2), []byte("xy"))
		}
	}
	wantReader(t, "all of it", r, len(b), 0, true)
}

// Each of these makes a reader that isn't fine.
func TestNotFineStaysSo(t *testing.T) {
	for i, spoil := range []func(*field.Reader){
		func(r *field.Reader) { r.Bytes(6) },
		func(r *field.Reader) { r.Bytes(-1) },
		func(r *field.Reader) { r.Seek(6) },
		func(r *field.Reader) { r.Seek(-1) },
		func(r *field.Reader) { r.Seek(4); r.Number(2); r.Seek(0) },
	} {
		r := field.New([]byte{1, 2, 3, 4, 5})
		spoil(r)
		for at := range 6 {
			wantNumber(t, "a number", r.Number(1), 0)
			wantBytes(t, "bytes", r.Bytes(1), nil)
			wantBytes(t, "no bytes", r.Bytes(0), nil)
			r.Seek(at)
			if r.Ok() || r.At()+r.Left() != 5 {
				t.Errorf("spoilt by %d: at %d, left %d, %t", i, r.At(), r.Left(), r.Ok())
			}
		}
	}
}
