package record_test

import (
	"bytes"
	"encoding/binary"
	"hash/crc32"
	"math"
	"slices"
	"strings"
	"testing"

	"bindle/api"
	"bindle/codec"
	"bindle/crc"
	"bindle/desc"
	"bindle/local"
	"bindle/record"
	"bindle/sample"
	"bindle/stone"
)

const maxData = 65536

// head is a head's bytes by chapter 16's words, whether it may be or not.
func head(method byte, name string, size, area, sum uint32) []byte {
	b := append([]byte("LMBR"), method, byte(len(name)))
	for _, n := range []uint32{size, area, sum} {
		b = binary.LittleEndian.AppendUint32(b, n)
	}
	return summed(append(b, name...))
}

// tomb is a tombstone's bytes.
func tomb(name string) []byte {
	return summed(append(append([]byte("TOMB"), byte(len(name))), name...))
}

// descriptor is a descriptor's bytes.
func descriptor(size, area, sum uint32) []byte {
	b := []byte("DESC")
	for _, n := range []uint32{size, area, sum} {
		b = binary.LittleEndian.AppendUint32(b, n)
	}
	return summed(b)
}

func summed(b []byte) []byte {
	return binary.LittleEndian.AppendUint32(b, crc32.ChecksumIEEE(b))
}

// kept is a record of data that isn't packed.
func kept(name string, data []byte) []byte {
	n := uint32(len(data))
	return append(head(0, name, n, n, crc32.ChecksumIEEE(data)), data...)
}

// streamed is a record of pieces.
func streamed(name string, rows ...string) []byte {
	size := 0
	var area []byte
	for _, s := range rows {
		size += len(s)
		area = binary.LittleEndian.AppendUint16(area, uint16(len(s)))
		area = append(area, s...)
	}
	area = append(area, 0, 0)
	d := descriptor(uint32(size), uint32(len(area)), crc32.ChecksumIEEE(area))
	return slices.Concat(head(2, name, 0, 0, 0), area, d)
}

func wantTake(t *testing.T, what string, b []byte, at int, want record.Record, e api.Errno) {
	t.Helper()
	c := crc.Make()
	if r, ge := record.Take(&c, b, at); r != want || ge != e {
		t.Errorf("%s: Take at %d: %v %d, not %v %d", what, at, r, ge, want, e)
	}
}

func wantRefused(t *testing.T, what string, b []byte, at int, e api.Errno) {
	t.Helper()
	wantTake(t, what, b, at, record.Record{}, e)
}

func wantData(t *testing.T, what string, b []byte, m api.Member, want []byte, e api.Errno) {
	t.Helper()
	c := crc.Make()
	if data, ge := record.Data(&c, b, m); !bytes.Equal(data, want) || ge != e {
		t.Errorf("%s: Data: %d bytes %d, not %d bytes %d", what, len(data), ge, len(want), e)
	}
}

// 22.1

func TestKindsAndLen(t *testing.T) {
	if record.Live != 1 || record.Gone != 2 {
		t.Error("other kinds")
	}
	if n := record.Len(record.Record{Member: api.Member{At: 1024}, Next: 1050}); n != 26 {
		t.Errorf("Len: %d", n)
	}
	if n := record.Len(record.Record{Kind: record.Gone, Member: api.Member{At: 7, From: 3}, Next: 5}); n != -2 {
		t.Errorf("Len: %d", n)
	}
}

func TestPut(t *testing.T) {
	c := crc.Make()
	for _, data := range [][]byte{nil, {1}, []byte("abc"), sample.Bytes(300, 1), bytes.Repeat([]byte("ab"), 700), make([]byte, maxData), sample.Bytes(maxData, 2)} {
		for level := -2; level < 5; level++ {
			before := bytes.Clone(data)
			b, e := record.Put(&c, "a/b", data, level)
			method, area, _ := codec.Pack(data, level)
			want := append(head(byte(method), "a/b", uint32(len(data)), uint32(len(area)), crc32.ChecksumIEEE(area)), area...)
			if !bytes.Equal(b, want) || e != api.OK || !bytes.Equal(data, before) {
				t.Errorf("Put of %d bytes, level %d: %d bytes, %d, not %d", len(data), level, len(b), e, len(want))
			}
		}
	}
	b, _ := record.Put(&c, "a", []byte("abc"), 0)
	if !bytes.Equal(b, kept("a", []byte("abc"))) || len(b) != 26 {
		t.Errorf("by hand: %x", b)
	}
}

func TestPutRefused(t *testing.T) {
	c := crc.Make()
	long := make([]byte, maxData+1)
	for _, name := range []string{"", "a//b", "..", strings.Repeat("n", 65), "a b"} {
		for _, data := range [][]byte{nil, long} {
			if b, e := record.Put(&c, name, data, 0); len(b) != 0 || e != api.ErrName {
				t.Errorf("Put of %q: %d bytes, %d", name, len(b), e)
			}
			if b, e := record.Stream(&c, name, [][]byte{data}); len(b) != 0 || e != api.ErrName {
				t.Errorf("Stream of %q: %d bytes, %d", name, len(b), e)
			}
		}
	}
	for level := -1; level < 4; level++ {
		if b, e := record.Put(&c, "a", long, level); len(b) != 0 || e != api.ErrSize {
			t.Errorf("Put of too many: %d bytes, %d", len(b), e)
		}
	}
	for _, rows := range [][][]byte{{long}, {long[1:], {1}}, {{1}, nil, long[1:]}} {
		if b, e := record.Stream(&c, "a", rows); len(b) != 0 || e != api.ErrSize {
			t.Errorf("Stream of too many: %d bytes, %d", len(b), e)
		}
	}
}

func TestStream(t *testing.T) {
	c := crc.Make()
	for _, rows := range [][]string{nil, {"abc"}, {"a", "bc"}, {strings.Repeat("x", 65535)}, {strings.Repeat("x", 300), "y"}} {
		var l [][]byte
		for _, s := range rows {
			l = append(l, []byte(s))
		}
		b, e := record.Stream(&c, "a/b", l)
		if want := streamed("a/b", rows...); !bytes.Equal(b, want) || e != api.OK {
			t.Errorf("Stream of %d rows: %d bytes, %d, not %d", len(rows), len(b), e, len(want))
		}
	}
	b, e := record.Stream(&c, "a", [][]byte{nil, []byte("ab"), {}, []byte("c")})
	if !bytes.Equal(b, streamed("a", "ab", "c")) || e != api.OK {
		t.Errorf("with rows of nothing: %x %d", b, e)
	}
	b, e = record.Stream(&c, "a", [][]byte{make([]byte, maxData)})
	if !bytes.Equal(b, streamed("a", string(make([]byte, 65535)), "\x00")) || e != api.OK {
		t.Errorf("of as many as there may be: %d bytes, %d", len(b), e)
	}
	ones := slices.Repeat([][]byte{{7}}, maxData)
	b, e = record.Stream(&c, "a", ones)
	if !bytes.Equal(b, streamed("a", slices.Repeat([]string{"\x07"}, maxData)...)) || e != api.OK {
		t.Errorf("of many pieces: %d bytes, %d", len(b), e)
	}
}

// 22.2

// whole are records of all kinds, which stand at a place behind others, and what they are.
func whole() (all [][]byte, want []record.Record) {
	const at = 5
	c := crc.Make()
	long := strings.Repeat("n", 64)
	packed := bytes.Repeat([]byte("ab"), 500)
	_, area, _ := codec.Pack(packed, 1)
	put, _ := record.Put(&c, "p", packed, 1)
	add := func(b []byte, kind int, m api.Member) {
		m.At = at
		all, want = append(all, b), append(want, record.Record{Kind: kind, Member: m, Next: at + len(b)})
	}
	add(tomb("a/b"), record.Gone, api.Member{Name: "a/b"})
	add(tomb(long), record.Gone, api.Member{Name: long})
	add(kept("a", nil), record.Live, api.Member{Name: "a", From: at + 23})
	add(kept("a", []byte("abc")), record.Live, api.Member{Name: "a", From: at + 23, Size: 3, Area: 3, Sum: crc32.ChecksumIEEE([]byte("abc"))})
	add(kept(long, make([]byte, maxData)), record.Live, api.Member{Name: long, From: at + 86, Size: maxData, Area: maxData, Sum: crc32.ChecksumIEEE(make([]byte, maxData))})
	add(put, record.Live, api.Member{Name: "p", From: at + 23, Size: 1000, Area: len(area), Sum: crc32.ChecksumIEEE(area), Method: api.Packed})
	add(streamed("s"), record.Live, api.Member{Name: "s", From: at + 23, Area: 2, Sum: crc32.ChecksumIEEE([]byte{0, 0}), Method: api.Streamed})
	add(streamed("s", "ab", "c"), record.Live, api.Member{Name: "s", From: at + 23, Area: 9, Size: 3, Sum: crc32.ChecksumIEEE([]byte("\x02\x00ab\x01\x00c\x00\x00")), Method: api.Streamed})
	return all, want
}

func TestTake(t *testing.T) {
	all, want := whole()
	for i, b := range all {
		among := slices.Concat([]byte("ahead"), b, []byte("behind, and more"))
		kept := bytes.Clone(among)
		wantTake(t, "among others", among, 5, want[i], api.OK)
		wantTake(t, "the last one", among[:5+len(b)], 5, want[i], api.OK)
		if record.Len(want[i]) != len(b) || !bytes.Equal(among, kept) {
			t.Error("another Len, or changed")
		}
		for n := 0; n < len(b); n += 1 + n/100 {
			wantRefused(t, "not all of it", among[:5+n], 5, api.ErrEnd)
		}
		wantRefused(t, "but for a byte", among[:4+len(b)], 5, api.ErrEnd)
	}
}

func TestTakeNoPlace(t *testing.T) {
	for _, b := range [][]byte{nil, tomb("a"), kept("a", []byte("abc")), streamed("a", "b"), []byte("TOMB"), []byte("LMBR"), []byte("TOM")} {
		for _, at := range []int{-1, -4, len(b) + 1, len(b) + 4, 1 << 40, math.MinInt, math.MaxInt, math.MaxInt - 3} {
			wantRefused(t, "no place", b, at, api.ErrArg)
		}
		wantRefused(t, "behind all", b, len(b), api.ErrEnd)
	}
	wantRefused(t, "others", []byte("DESC and more than that, much more"), 0, api.ErrForm)
	wantRefused(t, "others", make([]byte, 600), 0, api.ErrForm)
	wantRefused(t, "three others", []byte("xyz"), 0, api.ErrEnd)
}

// What a tombstone, and what a head is refused with, its record is refused with.
func TestTakeSpoilt(t *testing.T) {
	c := crc.Make()
	all, _ := whole()
	for _, b := range all {
		for i := range min(len(b), 30) {
			spoilt := bytes.Clone(b)
			spoilt[i] ^= 0x10
			var e api.Errno
			if stone.Is(b, 0) && i >= 4 {
				_, _, e = stone.Take(&c, spoilt, 0)
			} else {
				_, _, e = local.Take(&c, spoilt, 0)
			}
			if e != api.OK {
				wantRefused(t, "another byte", spoilt, 0, e)
			}
		}
	}
	wantRefused(t, "a tombstone of no name", tomb("a//b"), 0, api.ErrName)
	wantRefused(t, "a head of no name", head(0, "a//b", 0, 0, 0), 0, api.ErrForm)
	spoilt := tomb("a")
	spoilt[5]++
	wantRefused(t, "a tombstone, another sum", spoilt, 0, api.ErrSum)
	wantRefused(t, "a head that may not be", head(3, "a", 0, 0, 0), 0, api.ErrForm)
	wantRefused(t, "a head that may not be, without a payload", head(0, "a", 3, 4, 0), 0, api.ErrForm)
	wantRefused(t, "a head alone", head(0, "a", 3, 3, 0), 0, api.ErrEnd)
}

// A payload's own sum is not asked.
func TestTakeAnotherSum(t *testing.T) {
	wantTake(t, "another sum", append(head(0, "a", 3, 3, 9), "abc"...), 0, record.Record{Kind: record.Live, Member: api.Member{Name: "a", From: 23, Size: 3, Area: 3, Sum: 9}, Next: 26}, api.OK)
	wantTake(t, "another sum, streamed", slices.Concat(head(2, "a", 0, 0, 0), []byte{0, 0}, descriptor(77, 2, 9)), 0, record.Record{Kind: record.Live, Member: api.Member{Name: "a", From: 23, Size: 77, Area: 2, Sum: 9, Method: api.Streamed}, Next: 45}, api.OK)
}

func TestTakeStreamed(t *testing.T) {
	h := head(2, "a", 0, 0, 0)
	area := []byte{1, 0, 'x', 0, 0}
	sum := crc32.ChecksumIEEE(area)
	join := func(l ...[]byte) []byte { return slices.Concat(l...) }
	d := descriptor(1, 5, sum)
	spoilt := bytes.Clone(d)
	spoilt[7]++
	wantRefused(t, "pieces that don't end", join(h, []byte{1, 0, 'x'}, d), 0, api.ErrEnd)
	wantRefused(t, "no descriptor", join(h, area), 0, api.ErrEnd)
	wantRefused(t, "not all of a descriptor", join(h, area, d[:19]), 0, api.ErrEnd)
	wantRefused(t, "another descriptor's mark", join(h, area, []byte{0}, d), 0, api.ErrForm)
	wantRefused(t, "another mark, too short", join(h, area, make([]byte, 19)), 0, api.ErrEnd)
	wantRefused(t, "a descriptor of another sum", join(h, area, spoilt), 0, api.ErrSum)
	wantRefused(t, "a descriptor that may not be", join(h, area, descriptor(maxData+1, 5, sum)), 0, api.ErrForm)
	wantRefused(t, "another Area", join(h, area, descriptor(1, 4, sum)), 0, api.ErrForm)
	wantRefused(t, "another Area", join(h, area, descriptor(1, 6, sum)), 0, api.ErrForm)
	wantTake(t, "fine", join(h, area, d), 0, record.Record{Kind: record.Live, Member: api.Member{Name: "a", From: 23, Area: 5, Size: 1, Sum: sum, Method: api.Streamed}, Next: 48}, api.OK)
}

// 22.3

func TestDataRefused(t *testing.T) {
	b := append(make([]byte, 1024), kept("a", []byte("abc"))...)
	sum := crc32.ChecksumIEEE([]byte("abc"))
	m := api.Member{Name: "a", At: 1024, From: 1047, Area: 3, Size: 3, Sum: sum}
	wantData(t, "fine", b, m, []byte("abc"), api.OK)
	with := func(f func(m *api.Member)) api.Member {
		other := m
		f(&other)
		return other
	}
	for _, other := range []api.Member{
		{},
		with(func(m *api.Member) { m.Name = "" }),
		with(func(m *api.Member) { m.Name = "a//b" }),
		with(func(m *api.Member) { m.At = 1023 }),
		with(func(m *api.Member) { m.At, m.From = 1023, 1046 }),
		with(func(m *api.Member) { m.From = 1048 }),
		with(func(m *api.Member) { m.From = -1 }),
		with(func(m *api.Member) { m.Area = -1 }),
		with(func(m *api.Member) { m.Area = 262145 }),
		with(func(m *api.Member) { m.Area = math.MaxInt }),
		with(func(m *api.Member) { m.Size = -1 }),
		with(func(m *api.Member) { m.Size = maxData + 1 }),
		with(func(m *api.Member) { m.Method = 3 }),
		with(func(m *api.Member) { m.Method = -1 }),
		with(func(m *api.Member) { m.At, m.From = math.MaxInt-22, math.MinInt }),
	} {
		wantData(t, "what may not be", b, other, nil, api.ErrArg)
		wantData(t, "what may not be, of nothing", nil, other, nil, api.ErrArg)
	}
	for n := range b {
		wantData(t, "not all there", b[:n], m, nil, api.ErrEnd)
	}
	wantData(t, "not all there, another sum", b[:1049], with(func(m *api.Member) { m.Sum++ }), nil, api.ErrEnd)
	wantData(t, "far off", b, with(func(m *api.Member) { m.At, m.From = 1<<30, 1<<30+23 }), nil, api.ErrEnd)
	wantData(t, "another sum", b, with(func(m *api.Member) { m.Sum++ }), nil, api.ErrSum)
	wantData(t, "another sum, and size", b, with(func(m *api.Member) { m.Sum++; m.Size++ }), nil, api.ErrSum)
	wantData(t, "another Area, and so another sum", b, with(func(m *api.Member) { m.Area-- }), nil, api.ErrSum)
	wantData(t, "another Size", b, with(func(m *api.Member) { m.Size++ }), nil, api.ErrSize)
	_, e := codec.Unpack(api.Packed, []byte("abc"), 3)
	wantData(t, "another Method", b, with(func(m *api.Member) { m.Method = api.Packed }), nil, e)
	_, e = codec.Unpack(api.Streamed, []byte("abc"), 3)
	wantData(t, "another Method", b, with(func(m *api.Member) { m.Method = api.Streamed }), nil, e)
}

func TestDataIsNewMemory(t *testing.T) {
	c := crc.Make()
	b := append(make([]byte, 1024), kept("a", []byte("abc"))...)
	r, _ := record.Take(&c, b, 1024)
	data, _ := record.Data(&c, b, r.Member)
	clear(data)
	wantData(t, "again", b, r.Member, []byte("abc"), api.OK)
	data, _ = record.Data(&c, b, r.Member)
	clear(b)
	if string(data) != "abc" || r.Member.Name != "a" {
		t.Error("the answer isn't new memory")
	}
}

// 22.4

func TestExample(t *testing.T) {
	c := crc.Make()
	b, _ := record.Put(&c, "a", nil, 3)
	if r, e := record.Take(&c, b, 0); e != api.OK || r.Kind != record.Live || r.Member.Size != 0 {
		t.Errorf("of no data: %v %d", r, e)
	}
}

func TestWhatIsPutIsTaken(t *testing.T) {
	c := crc.Make()
	dice := sample.Dice(5)
	for i := range 200 {
		data := sample.Bytes(dice(2000), uint32(i))
		if dice(2) == 0 {
			data = bytes.Repeat(data[:min(len(data), 20)], dice(60))
		}
		b := sample.Bytes(1024+dice(100), uint32(i))
		at := len(b)
		var put []byte
		if dice(3) == 0 {
			cut := dice(len(data) + 1)
			put, _ = record.Stream(&c, "a/b", [][]byte{data[:cut], data[cut:]})
		} else {
			put, _ = record.Put(&c, "a/b", data, dice(5)-1)
		}
		b = append(b, put...)
		r, e := record.Take(&c, b, at)
		if e != api.OK || r.Kind != record.Live || r.Member.Name != "a/b" || r.Member.At != at || r.Next != len(b) || r.Member.Size != len(data) {
			t.Fatalf("what was put: %v %d", r, e)
		}
		wantData(t, "what was put", b, r.Member, data, api.OK)
	}
}

func TestBurstsInAPayloadAreFound(t *testing.T) {
	c := crc.Make()
	text := bytes.Repeat([]byte("abc"), 20)
	packed, _ := record.Put(&c, "a", text, 2)
	stored, _ := record.Put(&c, "a", text[:9], -1)
	rows, _ := record.Stream(&c, "a", [][]byte{[]byte("ab"), text})
	for _, b := range [][]byte{packed, stored, rows} {
		b = append(make([]byte, 1024), b...)
		r, _ := record.Take(&c, b, 1024)
		from, behind := r.Member.From, r.Member.From+r.Member.Area
		for at, spoilt := range sample.Bursts(b[from:behind], 3) {
			data, e := record.Data(&c, slices.Concat(b[:from], spoilt, b[behind:]), r.Member)
			if e != api.ErrSum || len(data) != 0 {
				t.Fatalf("a burst at %d: %d", at, e)
			}
		}
	}
}

// Every call ends, and none panics, whatever it is given.
func TestAnyBytes(t *testing.T) {
	c := crc.Make()
	dice := sample.Dice(77)
	all, _ := whole()
	for range 3000 {
		b := bytes.Clone(all[dice(len(all))])
		b = b[:min(len(b), 300)]
		for range dice(4) {
			b[dice(len(b))] = byte(dice(256))
		}
		r, e := record.Take(&c, b, dice(len(b)+3)-1)
		if e != api.OK && r != (record.Record{}) {
			t.Fatal("something beside an error")
		}
		record.Data(&c, b, r.Member)
	}
	record.Put(nil, "a", []byte("abc"), 1)
	record.Stream(nil, "a", nil)
	for _, b := range all {
		record.Take(nil, b, 0)
	}
	record.Data(nil, make([]byte, 2000), api.Member{Name: "a", At: 1024, From: 1047})
	if desc.Len != 20 {
		t.Error("another Len")
	}
}
