package codec_test

import (
	"bytes"
	"math"
	"slices"
	"strings"
	"testing"

	"bindle/api"
	"bindle/block"
	"bindle/codec"
	"bindle/sample"
	"bindle/tokens"
)

const maxData = 65536

func wantBytes(t *testing.T, what string, got, want []byte) {
	t.Helper()
	if !bytes.Equal(got, want) {
		t.Errorf("%s: %d bytes, not %d, or others: %.40x, not %.40x", what, len(got), len(want), got, want)
	}
}

func wantPack(t *testing.T, what string, b []byte, level, method int, area []byte) {
	t.Helper()
	m, a, e := codec.Pack(b, level)
	if m != method || !bytes.Equal(a, area) || e != api.OK {
		t.Errorf("%s: Pack of %d bytes at %d: %d, %d bytes, %d, not %d, %d bytes", what, len(b), level, m, len(a), e, method, len(area))
	}
}

func wantUnpack(t *testing.T, what string, method int, area []byte, size int, want []byte, e api.Errno) {
	t.Helper()
	b, ge := codec.Unpack(method, area, size)
	if !bytes.Equal(b, want) || ge != e {
		t.Errorf("%s: Unpack(%d, %.20x, %d): %.20x %d, not %.20x %d", what, method, area, size, b, ge, want, e)
	}
}

func wantPieces(t *testing.T, what string, area, want []byte, e api.Errno) {
	t.Helper()
	b, ge := codec.Pieces(area)
	if !bytes.Equal(b, want) || ge != e {
		t.Errorf("%s: Pieces(%.20x): %d bytes, %d, not %d, %d", what, area, len(b), ge, len(want), e)
	}
}

// plain is n bytes of so many kinds: the fewer these are, the shorter the block.
func plain(n, kinds int, seed uint32) []byte {
	b := sample.Bytes(n, seed)
	for i := range b {
		b[i] = byte(int(b[i]) % kinds)
	}
	return b
}

// 14.1

func TestPackExample(t *testing.T) {
	for level := -2; level < 5; level++ {
		wantPack(t, "one byte", []byte{7}, level, api.Stored, []byte{7})
	}
}

func TestPackOfFew(t *testing.T) {
	for level := -2; level < 5; level++ {
		wantPack(t, "none", nil, level, api.Stored, nil)
		wantPack(t, "no bytes", []byte{}, level, api.Stored, nil)
		wantPack(t, "few", []byte("abcabcabc"), level, api.Stored, []byte("abcabcabc"))
	}
}

func TestPackBelow0(t *testing.T) {
	b := bytes.Repeat([]byte("ab"), 1000)
	for _, level := range []int{-1, -2, -1000, math.MinInt} {
		wantPack(t, "below 0", b, level, api.Stored, b)
	}
}

// Each level has its own tokens, and levels above the greatest one have its.
func TestPackByLevels(t *testing.T) {
	b := []byte(strings.Repeat("abcde.abc1abc2abc3abc4abcde.bcde.abcdefgh", 20) + string(plain(800, 6, 1)))
	var areas []string
	for level := range 4 {
		area := sample.Packed(tokens.Split(b, level))
		wantPack(t, "a level", b, level, api.Packed, area)
		areas = append(areas, string(area))
	}
	if slices.Sort(areas); len(slices.Compact(areas)) < 3 {
		t.Error("levels can't be told from each other by these bytes")
	}
	want := sample.Packed(tokens.Split(b, 3))
	for _, level := range []int{4, 5, 1000, math.MaxInt} {
		wantPack(t, "above the levels", b, level, api.Packed, want)
	}
}

// What has just as many bytes is stored, what has one fewer isn't.
func TestPackJustShorter(t *testing.T) {
	seen := map[int]int{}
	for seed := range uint32(400) {
		b := plain(40+int(seed)%40, 3, seed)
		area := sample.Packed(tokens.Split(b, 2))
		fewer := len(b) - len(area)
		seen[fewer]++
		if fewer > 0 {
			wantPack(t, "fewer bytes", b, 2, api.Packed, area)
		} else {
			wantPack(t, "not fewer bytes", b, 2, api.Stored, b)
		}
	}
	if seen[0] == 0 || seen[1] == 0 || seen[-1] == 0 {
		t.Errorf("the edge isn't there: %v", seen)
	}
}

func TestPackAtTheLimit(t *testing.T) {
	most, rough := make([]byte, maxData), sample.Bytes(maxData, 2)
	for _, level := range []int{-1, 0, 3} {
		wantPack(t, "as many as there may be", rough, level, api.Stored, rough)
	}
	wantPack(t, "as many as there may be", most, -1, api.Stored, most)
	wantPack(t, "as many as there may be", most, 1, api.Packed, sample.Packed(tokens.Split(most, 1)))
	for _, level := range []int{math.MinInt, -1, 0, 1, 2, 3, 4} {
		for _, n := range []int{maxData + 1, maxData + 2, 2 * maxData} {
			if m, a, e := codec.Pack(make([]byte, n), level); m != 0 || len(a) != 0 || e != api.ErrSize {
				t.Errorf("Pack of %d bytes: %d, %d bytes, %d", n, m, len(a), e)
			}
		}
	}
}

func TestPackIsNewMemory(t *testing.T) {
	for _, level := range []int{-1, 0, 2} {
		for _, b := range [][]byte{[]byte("abc"), make([]byte, 300)} {
			kept := bytes.Clone(b)
			_, area, _ := codec.Pack(b, level)
			area[0]++
			wantBytes(t, "what was handed in", b, kept)
			_, again, _ := codec.Pack(b, level)
			if again[0] == area[0] {
				t.Errorf("level %d: the answer isn't new memory", level)
			}
		}
	}
}

func TestUnpackRefused(t *testing.T) {
	for _, method := range []int{-1, 3, 4, math.MinInt, math.MaxInt} {
		for _, size := range []int{0, 3, -1, maxData + 1} {
			wantUnpack(t, "no method", method, []byte("abc"), size, nil, api.ErrArg)
		}
	}
	for method := range 3 {
		for _, size := range []int{-1, maxData + 1, math.MinInt, math.MaxInt} {
			wantUnpack(t, "no size", method, nil, size, nil, api.ErrSize)
			wantUnpack(t, "no size", method, make([]byte, maxData+1), size, nil, api.ErrSize)
		}
	}
}

func TestUnpackStored(t *testing.T) {
	most := sample.Bytes(maxData, 3)
	wantUnpack(t, "none", api.Stored, nil, 0, nil, api.OK)
	wantUnpack(t, "some", api.Stored, []byte("abc"), 3, []byte("abc"), api.OK)
	wantUnpack(t, "most", api.Stored, most, maxData, most, api.OK)
	for _, size := range []int{0, 1, 2, 4, maxData} {
		wantUnpack(t, "another size", api.Stored, []byte("abc"), size, nil, api.ErrSize)
	}
	wantUnpack(t, "more than there may be", api.Stored, make([]byte, maxData+1), maxData, nil, api.ErrSize)
}

func TestUnpackPacked(t *testing.T) {
	b := []byte("abcabcabcabcabcd")
	l := tokens.Split(b, 3)
	area := sample.Packed(l)
	wantUnpack(t, "fine", api.Packed, area, len(b), b, api.OK)
	wantUnpack(t, "of single bytes", api.Packed, sample.Packed(tokens.Split([]byte("xyz"), 0)), 3, []byte("xyz"), api.OK)
	wantUnpack(t, "of nothing", api.Packed, sample.Packed(nil), 0, nil, api.OK)
	wantUnpack(t, "of a size that is greater", api.Packed, area, len(b)+1, nil, api.ErrSize)
	wantUnpack(t, "of the greatest size", api.Packed, area, maxData, nil, api.ErrSize)
	wantUnpack(t, "of nothing, of a greater size", api.Packed, sample.Packed(nil), 1, nil, api.ErrSize)
	for size := range b {
		wantUnpack(t, "of a size that is less", api.Packed, area, size, nil, api.ErrSize)
	}
	for n := range area {
		wantUnpack(t, "too short", api.Packed, area[:n], len(b), nil, api.ErrEnd)
	}
	wantUnpack(t, "too far off", api.Packed, sample.Packed([]api.Token{{Byte: 'a'}, {Len: 3, Dist: 2}}), 4, nil, api.ErrForm)
	wantUnpack(t, "lengths that are none", api.Packed, make([]byte, 9), 4, nil, api.ErrSize)
	wantUnpack(t, "codes that are none", api.Packed, append([]byte{1}, make([]byte, 20)...), 4, nil, api.ErrCodes)
}

// Behind the block up to seven bits may be left, all of them 0.
func TestUnpackPackedLeft(t *testing.T) {
	seen := map[int]bool{}
	for n := range 40 {
		b := plain(n, 5, uint32(n))
		l := tokens.Split(b, 1)
		count, _ := block.Bits(l)
		area := sample.Packed(l)
		left := 8*len(area) - count
		seen[left] = true
		wantUnpack(t, "fine", api.Packed, area, n, b, api.OK)
		for k := range left {
			spoilt := bytes.Clone(area)
			spoilt[len(spoilt)-1] ^= 128 >> k
			wantUnpack(t, "a bit behind", api.Packed, spoilt, n, nil, api.ErrForm)
			wantUnpack(t, "a bit behind, of another size", api.Packed, spoilt, n+1, nil, api.ErrSize)
		}
		wantUnpack(t, "a byte behind", api.Packed, append(bytes.Clone(area), 0), n, nil, api.ErrForm)
		wantUnpack(t, "a byte behind, of another size", api.Packed, append(bytes.Clone(area), 0), n+1, nil, api.ErrSize)
		wantUnpack(t, "many bytes behind", api.Packed, append(bytes.Clone(area), make([]byte, 99)...), n, nil, api.ErrForm)
	}
	if len(seen) != 8 {
		t.Errorf("not each count of bits is left: %v", seen)
	}
}

func TestUnpackStreamed(t *testing.T) {
	area := sample.Streamed("abc", "d", "ef")
	wantUnpack(t, "fine", api.Streamed, area, 6, []byte("abcdef"), api.OK)
	wantUnpack(t, "of nothing", api.Streamed, sample.Streamed(), 0, nil, api.OK)
	for _, size := range []int{0, 5, 7, maxData} {
		wantUnpack(t, "another size", api.Streamed, area, size, nil, api.ErrSize)
	}
	wantUnpack(t, "a byte behind", api.Streamed, append(bytes.Clone(area), 0), 6, nil, api.ErrForm)
	wantUnpack(t, "a byte behind, of another size", api.Streamed, append(bytes.Clone(area), 0), 5, nil, api.ErrForm)
	for n := range area {
		wantUnpack(t, "too short", api.Streamed, area[:n], 6, nil, api.ErrEnd)
	}
	most := string(sample.Bytes(maxData, 4))
	wantUnpack(t, "most", api.Streamed, sample.Streamed(most[:65535], most[65535:]), maxData, []byte(most), api.OK)
	wantUnpack(t, "more than there may be", api.Streamed, sample.Streamed(most[:65535], most[:2]), maxData, nil, api.ErrSize)
}

func TestUnpackIsNewMemory(t *testing.T) {
	b := []byte("abcabcabcabc")
	for method, area := range [][]byte{api.Stored: bytes.Clone(b), api.Packed: sample.Packed(tokens.Split(b, 1)), api.Streamed: codec.Piece(b)} {
		if method == api.Streamed {
			area = append(area, 0, 0)
		}
		kept := bytes.Clone(area)
		got, e := codec.Unpack(method, area, len(b))
		if e != api.OK {
			t.Fatal(e)
		}
		for i := range got {
			got[i] = 77
		}
		wantBytes(t, "what was handed in", area, kept)
		wantUnpack(t, "behind a change of an answer", method, area, len(b), b, api.OK)
	}
}

// 14.2

func TestPiece(t *testing.T) {
	wantBytes(t, "of nil", codec.Piece(nil), nil)
	wantBytes(t, "of no bytes", codec.Piece([]byte{}), nil)
	wantBytes(t, "of one", codec.Piece([]byte{9}), []byte{1, 0, 9})
	wantBytes(t, "of 258", codec.Piece(make([]byte, 258)), append([]byte{2, 1}, make([]byte, 258)...))
	b := sample.Bytes(200000, 5)
	piece := func(from, n int) []byte {
		return append([]byte{byte(n), byte(n >> 8)}, b[from:from+n]...)
	}
	for _, x := range []struct {
		n    int
		want []byte
	}{
		{65534, piece(0, 65534)},
		{65535, piece(0, 65535)},
		{65536, slices.Concat(piece(0, 65535), piece(65535, 1))},
		{131070, slices.Concat(piece(0, 65535), piece(65535, 65535))},
		{131071, slices.Concat(piece(0, 65535), piece(65535, 65535), piece(131070, 1))},
		{200000, slices.Concat(piece(0, 65535), piece(65535, 65535), piece(131070, 65535), piece(196605, 3395))},
	} {
		wantBytes(t, "of many", codec.Piece(b[:x.n]), x.want)
	}
}

func TestStream(t *testing.T) {
	rough := sample.Bytes(maxData, 6)
	for _, x := range []struct {
		what string
		l    [][]byte
		want []byte
	}{
		{"nil", nil, []byte{0, 0}},
		{"no rows", [][]byte{}, []byte{0, 0}},
		{"rows of none", [][]byte{nil, {}, nil}, []byte{0, 0}},
		{"some rows", [][]byte{[]byte("ab"), nil, []byte("c")}, []byte{2, 0, 'a', 'b', 1, 0, 'c', 0, 0}},
		{"the greatest row", [][]byte{rough}, slices.Concat([]byte{255, 255}, rough[:65535], []byte{1, 0, rough[65535], 0, 0})},
		{"the greatest row, and none", [][]byte{rough, nil}, slices.Concat([]byte{255, 255}, rough[:65535], []byte{1, 0, rough[65535], 0, 0})},
		{"as many as there may be", [][]byte{rough[:65535], rough[65535:]}, slices.Concat([]byte{255, 255}, rough[:65535], []byte{1, 0, rough[65535], 0, 0})},
		{"as many as there may be, short ones first", [][]byte{rough[:1], rough[1:]}, slices.Concat([]byte{1, 0, rough[0], 255, 255}, rough[1:], []byte{0, 0})},
	} {
		if got, e := codec.Stream(x.l); !bytes.Equal(got, x.want) || e != api.OK {
			t.Errorf("%s: %d bytes, %d, not %d", x.what, len(got), e, len(x.want))
		}
	}
	for _, l := range [][][]byte{{make([]byte, maxData+1)}, {rough, {1}}, {{1}, rough}, {rough, rough}, {{1}, rough[1:], nil, {2}}, slices.Repeat([][]byte{rough}, 3000)} {
		if got, e := codec.Stream(l); len(got) != 0 || e != api.ErrSize {
			t.Errorf("%d rows: %d bytes, %d", len(l), len(got), e)
		}
	}
}

func TestPieces(t *testing.T) {
	wantPieces(t, "nil", nil, nil, api.ErrEnd)
	wantPieces(t, "no bytes", []byte{}, nil, api.ErrEnd)
	wantPieces(t, "half an end", []byte{0}, nil, api.ErrEnd)
	wantPieces(t, "the end", []byte{0, 0}, nil, api.OK)
	wantPieces(t, "a byte behind the end", []byte{0, 0, 0}, nil, api.ErrForm)
	wantPieces(t, "an end behind the end", []byte{0, 0, 0, 0}, nil, api.ErrForm)
	wantPieces(t, "a piece behind the end", []byte{0, 0, 1, 0, 9}, nil, api.ErrForm)
	wantPieces(t, "a piece", []byte{1, 0, 9, 0, 0}, []byte{9}, api.OK)
	wantPieces(t, "a piece, and a byte behind the end", []byte{1, 0, 9, 0, 0, 1}, nil, api.ErrForm)
	wantPieces(t, "a piece without its end", []byte{2, 0, 9}, nil, api.ErrEnd)
	wantPieces(t, "a piece without an end behind it", []byte{2, 0, 9, 9}, nil, api.ErrEnd)
	wantPieces(t, "a great piece", []byte{255, 255, 9}, nil, api.ErrEnd)
	wantPieces(t, "a great piece", append([]byte{255, 255}, make([]byte, 65537)...), make([]byte, 65535), api.OK)
	area := sample.Streamed("abc", strings.Repeat("d", 300), "e")
	wantPieces(t, "some", area, []byte("abc"+strings.Repeat("d", 300)+"e"), api.OK)
	for n := range area {
		wantPieces(t, "too short", area[:n], nil, api.ErrEnd)
	}
	many := bytes.Repeat(codec.Piece(make([]byte, 65535)), 20)
	wantPieces(t, "more than data may have", append(many, 0, 0), make([]byte, 20*65535), api.OK)
}

func TestStreamIsNewMemory(t *testing.T) {
	b := []byte("abc")
	codec.Piece(b)[2] = 'x'
	area, _ := codec.Stream([][]byte{b})
	area[2] = 'y'
	wantBytes(t, "what was handed in", b, []byte("abc"))
	area = sample.Streamed("abc")
	got, _ := codec.Pieces(area)
	got[0] = 'z'
	wantBytes(t, "what was handed in", area, sample.Streamed("abc"))
}

func TestMost(t *testing.T) {
	for _, n := range []int{0, 1, 2, 100, 65535, maxData} {
		if codec.Most(n) != n {
			t.Errorf("Most(%d): %d", n, codec.Most(n))
		}
	}
	for _, n := range []int{-1, -100, math.MinInt} {
		if codec.Most(n) != 0 {
			t.Errorf("Most(%d): %d", n, codec.Most(n))
		}
	}
}

// 14.3

func TestWhatIsPackedIsUnpacked(t *testing.T) {
	throw := sample.Dice(7)
	for round := range 300 {
		b := plain(throw(1+10*round), 1+throw(1+throw(256)), uint32(round))
		for level := -1; level < 4; level++ {
			method, area, e := codec.Pack(b, level)
			if e != api.OK || len(area) > len(b) || len(area) > codec.Most(len(b)) || method == api.Packed && len(area) == len(b) {
				t.Fatalf("%d bytes at %d: %d, %d bytes, %d", len(b), level, method, len(area), e)
			}
			wantUnpack(t, "what was packed", method, area, len(b), b, api.OK)
		}
		rows := slices.Collect(slices.Chunk(b, 1+throw(400)))
		area, e := codec.Stream(rows)
		if e != api.OK || len(area) != len(b)+2*len(rows)+2 {
			t.Fatalf("%d rows: %d bytes, %d", len(rows), len(area), e)
		}
		wantUnpack(t, "what was streamed", api.Streamed, area, len(b), b, api.OK)
		wantPieces(t, "what was streamed", area, b, api.OK)
		wantPieces(t, "one piece behind the other", append(codec.Piece(b), 0, 0), b, api.OK)
	}
}

// Whatever the bytes are, what is unpacked has the size, or there is an error.
func TestUnpackOfAnything(t *testing.T) {
	throw := sample.Dice(8)
	for round := range 3000 {
		b := plain(throw(200), 1+throw(20), uint32(round))
		area := sample.Packed(tokens.Split(b, 3))
		for range 1 + throw(3) {
			area[throw(len(area))] ^= 1 << throw(8)
		}
		size := max(0, len(b)+throw(3)-1)
		for method := range 3 {
			if got, e := codec.Unpack(method, area, size); e == api.OK && len(got) != size || e != api.OK && len(got) != 0 {
				t.Fatalf("%d: %x of %d: %d bytes, %d", method, area, size, len(got), e)
			}
		}
	}
}
