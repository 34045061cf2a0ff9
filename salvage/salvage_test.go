package salvage_test

import (
	"bytes"
	"fmt"
	"math"
	"slices"
	"strings"
	"testing"

	"bindle/api"
	"bindle/commit"
	"bindle/crc"
	"bindle/model"
	"bindle/record"
	"bindle/salvage"
	"bindle/sample"
	"bindle/scan"
	"bindle/stone"
	"bindle/verify"
)

// laid is bytes of which records stand among others, and the rows that should be found.
type laid struct {
	t    *testing.T
	c    crc.Table
	b    []byte
	rows []salvage.Row
}

func lay(t *testing.T) *laid {
	return &laid{t: t, c: crc.Make(), b: make([]byte, 1024)}
}

func (x *laid) add(b []byte, e api.Errno, row salvage.Row) {
	x.t.Helper()
	if e != api.OK {
		x.t.Fatalf("no record: %d", e)
	}
	row.At = len(x.b)
	x.b = append(x.b, b...)
	row.Next = len(x.b)
	x.rows = append(x.rows, row)
}

func (x *laid) put(name, data string, level int) {
	x.t.Helper()
	b, e := record.Put(&x.c, name, []byte(data), level)
	x.add(b, e, salvage.Row{File: sample.File(name, data)})
}

func (x *laid) stream(name string, rows ...string) {
	x.t.Helper()
	var l [][]byte
	for _, s := range rows {
		l = append(l, []byte(s))
	}
	b, e := record.Stream(&x.c, name, l)
	x.add(b, e, salvage.Row{File: sample.File(name, strings.Join(rows, ""))})
}

func (x *laid) gone(name string) {
	x.t.Helper()
	b, e := stone.Put(&x.c, name)
	x.add(b, e, salvage.Row{File: sample.File(name, ""), Gone: true})
}

func (x *laid) other(b ...byte) {
	x.b = append(x.b, b...)
}

// several are records of all kinds, with other bytes between them.
func several(t *testing.T) *laid {
	x := lay(t)
	x.put("b", "bb", 0)
	x.put("a", "first", 0)
	x.other([]byte("LMBR")...)
	x.stream("c", "cc", "c")
	x.gone("a")
	x.other(0)
	x.put("a", strings.Repeat("second ", 40), 2)
	x.gone("d")
	x.other([]byte("TOMB\x01")...)
	x.put("aa", "", 0)
	x.gone("b")
	x.other(sample.Bytes(50, 3)...)
	return x
}

// within is the rows that are found with a limit.
func within(rows []salvage.Row, limit int) []salvage.Row {
	rows = slices.Clone(rows)
	for i, r := range rows {
		if !r.Gone && len(r.File.Data) > limit {
			rows[i].File.Data = nil
			rows[i].Over = true
		}
	}
	return rows
}

func same(a, b []salvage.Row) bool {
	return slices.EqualFunc(a, b, func(x, y salvage.Row) bool {
		return x.At == y.At && x.Next == y.Next && x.Gone == y.Gone && x.Over == y.Over && model.Same([]api.File{x.File}, []api.File{y.File})
	})
}

// saved is what is saved, by the chapter's words: of each row that has data, is none with data, and no tombstone, of its name behind it?
func saved(rows []salvage.Row) []api.File {
	var l []api.File
	for i, r := range rows {
		last := !r.Gone && !r.Over
		for _, behind := range rows[i+1:] {
			last = last && (behind.Over || behind.File.Name != r.File.Name)
		}
		if last {
			l = append(l, r.File)
		}
	}
	slices.SortFunc(l, func(a, b api.File) int { return strings.Compare(a.Name, b.Name) })
	return l
}

func lost(b []byte, rows []salvage.Row) int {
	n := len(b) - 1024
	for _, r := range rows {
		n -= r.Next - r.At
	}
	return n
}

// wantAll holds all that is found of bytes with a limit.
func wantAll(t *testing.T, what string, b []byte, limit int, rows []salvage.Row) {
	t.Helper()
	c := crc.Make()
	kept := bytes.Clone(b)
	if got := slices.Collect(salvage.Each(&c, b, limit)); !same(got, rows) {
		t.Errorf("%s, limit %d: %v, not %v", what, limit, got, rows)
	}
	if l := salvage.Files(&c, b, limit); !model.Same(l, saved(rows)) {
		t.Errorf("%s, limit %d: %v, not %v", what, limit, l, saved(rows))
	}
	if n := salvage.Lost(&c, b, limit); n != lost(b, rows) {
		t.Errorf("%s, limit %d: %d lost, not %d", what, limit, n, lost(b, rows))
	}
	if !bytes.Equal(b, kept) || c != crc.Make() {
		t.Errorf("%s: changed", what)
	}
}

// 30.1

func TestRows(t *testing.T) {
	x := several(t)
	for _, limit := range []int{math.MinInt, -1, 0, 1, 2, 3, 4, 5, 279, 280, 281, math.MaxInt} {
		wantAll(t, "several", x.b, limit, within(x.rows, limit))
	}
	c := crc.Make()
	if l := salvage.Files(&c, x.b, 1000); !model.Same(l, []api.File{sample.File("a", strings.Repeat("second ", 40)), sample.File("aa", ""), sample.File("c", "ccc")}) {
		t.Errorf("by hand: %v", l)
	}
	if n := salvage.Lost(&c, x.b, 1000); n != 4+1+5+50 {
		t.Errorf("by hand: %d lost", n)
	}
}

func TestExample(t *testing.T) {
	wantAll(t, "the example", make([]byte, 1030), 1000, nil)
	c := crc.Make()
	if salvage.Lost(&c, make([]byte, 1030), 1000) != 6 {
		t.Error("not 6 bytes lost")
	}
}

func TestFewBytes(t *testing.T) {
	c := crc.Make()
	for _, n := range []int{0, 1, 1023, 1024} {
		b := make([]byte, n)
		if len(slices.Collect(salvage.Each(&c, b, 9))) != 0 || len(salvage.Files(&c, b, 9)) != 0 || salvage.Lost(&c, b, 9) != 0 {
			t.Errorf("of %d bytes", n)
		}
	}
	x := lay(t)
	x.put("a", "data", 0)
	// What stands ahead of 1024 isn't looked at.
	b := make([]byte, 1024)
	copy(b[1024-len(x.b[1024:]):], x.b[1024:])
	wantAll(t, "ahead of 1024", b, 9, nil)
	b = append(make([]byte, 1023), x.b[1024:]...)
	wantAll(t, "a byte ahead of 1024", b, 9, nil)
}

func TestCutAnywhere(t *testing.T) {
	x := several(t)
	for end := 1024; end < len(x.b); end++ {
		var rows []salvage.Row
		for _, r := range x.rows {
			if r.Next <= end {
				rows = append(rows, r)
			}
		}
		wantAll(t, "cut", x.b[:end], 1000, rows)
	}
}

// A record with a byte that is another one isn't found, and all others are.
func TestSpoiltAnywhere(t *testing.T) {
	x := several(t)
	for i, r := range x.rows {
		for at := r.At; at < r.Next; at += 1 + (r.Next-r.At)/40 {
			spoilt := bytes.Clone(x.b)
			spoilt[at] ^= 0x55
			wantAll(t, "spoilt", spoilt, 1000, slices.Delete(slices.Clone(x.rows), i, i+1))
		}
	}
}

// A record stands in another one's data: it is found, if that one isn't.
func TestARecordInARecord(t *testing.T) {
	inner := lay(t)
	inner.put("in", "inner", 0)
	x := lay(t)
	x.put("out", "some "+string(inner.b[1024:])+" more", -1)
	x.gone("in")
	wantAll(t, "whole", x.b, 1000, x.rows)
	x.b[1024]++
	at := 1024 + 25 + 5
	row := salvage.Row{At: at, Next: at + len(inner.b) - 1024, File: sample.File("in", "inner")}
	wantAll(t, "the outer one spoilt", x.b, 1000, []salvage.Row{row, x.rows[1]})
	c := crc.Make()
	if len(salvage.Files(&c, x.b, 1000)) != 0 || len(salvage.Files(&c, x.b[:x.rows[1].At], 1000)) != 1 {
		t.Error("what is saved")
	}
}

func TestOverIsPassedOver(t *testing.T) {
	x := lay(t)
	x.put("a", "one", 0)
	x.put("a", "longer", 0)
	wantAll(t, "a longer one behind", x.b, 3, within(x.rows, 3))
	c := crc.Make()
	if l := salvage.Files(&c, x.b, 3); !model.Same(l, []api.File{sample.File("a", "one")}) {
		t.Errorf("the last one that has data: %v", l)
	}
	x.gone("a")
	x.put("a", "longer", 0)
	if l := salvage.Files(&c, x.b, 3); len(l) != 0 {
		t.Errorf("a tombstone behind: %v", l)
	}
}

func TestEachIsLeft(t *testing.T) {
	x := several(t)
	for n := range x.rows {
		told := 0
		for range salvage.Each(&x.c, x.b, 1000) {
			told++
			if told > n {
				break
			}
		}
		if told != n+1 {
			t.Errorf("left behind %d: %d told", n+1, told)
		}
	}
}

// An iterator tells the same each time, whatever is done with the bytes, and with what it told, since.
func TestEachKeepsNothingThatIsHandedIn(t *testing.T) {
	x := several(t)
	all := salvage.Each(&x.c, x.b, 1000)
	files := salvage.Files(&x.c, x.b, 1000)
	clear(x.b)
	for range 2 {
		rows := slices.Collect(all)
		if !same(rows, x.rows) {
			t.Errorf("%v, not %v", rows, x.rows)
		}
		for _, r := range rows {
			clear(r.File.Data)
		}
	}
	if !model.Same(files, saved(x.rows)) {
		t.Error("the answer isn't new memory")
	}
}

// 30.2

func TestRebuild(t *testing.T) {
	text := strings.Repeat("text ", 60)
	for _, l := range [][]api.File{nil, {sample.File("a", "")}, {sample.File("a", text), sample.File("a/b", "x"), sample.File("b", "")}} {
		for level := -2; level < 5; level++ {
			x := lay(t)
			for _, f := range l {
				x.put(f.Name, string(f.Data), level)
			}
			live, _, _ := scan.Live(&x.c, x.b, len(x.b))
			want, _ := commit.Image(&x.c, x.b[1024:], live)
			b, e := salvage.Rebuild(&x.c, l, level)
			if !bytes.Equal(b, want) || e != api.OK {
				t.Errorf("of %d files, level %d: %d bytes, %d", len(l), level, len(b), e)
			}
			if files, e := verify.Files(&x.c, b); e != api.OK || !model.Same(files, l) {
				t.Errorf("of %d files, level %d: strictly: %d", len(l), level, e)
			}
		}
	}
}

func TestRebuildRefused(t *testing.T) {
	long := sample.File("b", string(make([]byte, 65537)))
	var many, great []api.File
	for i := range 201 {
		many = append(many, sample.File(fmt.Sprintf("n%03d", i), ""))
	}
	for i := range 33 {
		great = append(great, sample.File(fmt.Sprintf("n%03d", i), string(make([]byte, 65536))))
	}
	c := crc.Make()
	for _, x := range []struct {
		what string
		l    []api.File
		e    api.Errno
	}{
		{"no name", []api.File{sample.File("", "")}, api.ErrName},
		{"no name, then too long", []api.File{sample.File("a//b", ""), long}, api.ErrName},
		{"too long, then no name", []api.File{long, sample.File("", "")}, api.ErrSize},
		{"falling, then no name", []api.File{sample.File("b", ""), sample.File("a", ""), sample.File("..", "")}, api.ErrName},
		{"falling", []api.File{sample.File("b", ""), sample.File("a", "")}, api.ErrArg},
		{"one name twice", []api.File{sample.File("a", "1"), sample.File("a", "2")}, api.ErrArg},
		{"too many", many, api.ErrArg},
		{"too great", great, api.ErrLimit},
	} {
		if b, e := salvage.Rebuild(&c, x.l, -1); len(b) != 0 || e != x.e {
			t.Errorf("%s: %d bytes, %d, not %d", x.what, len(b), e, x.e)
		}
	}
	if b, e := salvage.Rebuild(&c, many[:200], -1); e != api.OK || len(b) == 0 {
		t.Errorf("of 200: %d", e)
	}
	if b, e := salvage.Rebuild(&c, great, 1); e != api.OK || len(b) == 0 {
		t.Errorf("great ones, packed: %d", e)
	}
}

func TestRebuildKeepsNothing(t *testing.T) {
	c := crc.Make()
	l := []api.File{sample.File("a", "data"), sample.File("b", "")}
	b, _ := salvage.Rebuild(&c, l, -1)
	kept := bytes.Clone(b)
	clear(l[0].Data)
	if !bytes.Equal(b, kept) || c != crc.Make() {
		t.Error("the answer isn't new memory, or changed")
	}
	clear(b)
	if l[1].Name != "b" || len(l[0].Data) != 4 {
		t.Error("the files are changed")
	}
}

// 30.3

func TestWholeRecordsAreFound(t *testing.T) {
	dice := sample.Dice(30)
	for seed := range uint32(100) {
		x := lay(t)
		ahead := dice(60)
		x.other(sample.Bytes(ahead, seed)...)
		for range dice(20) {
			name := string(rune('a' + dice(6)))
			switch dice(4) {
			case 0:
				x.gone(name)
			case 1:
				x.stream(name, strings.Repeat("s", 1+dice(50)), "t")
			default:
				x.put(name, strings.Repeat("p", dice(200)), dice(4)-1)
			}
		}
		limit := dice(250)
		wantAll(t, "whole records", x.b, limit, within(x.rows, limit))
		if n := salvage.Lost(&x.c, x.b, limit); n != ahead {
			t.Fatalf("%d lost, not %d", n, ahead)
		}
		l := salvage.Files(&x.c, x.b, limit)
		for _, f := range l {
			if len(f.Data) > limit {
				t.Fatal("longer than the limit")
			}
		}
		b, e := salvage.Rebuild(&x.c, l, dice(4)-1)
		if files, ve := verify.Files(&x.c, b); e != api.OK || ve != api.OK || !model.Same(files, l) {
			t.Fatalf("rebuilt: %d %d", e, ve)
		}
	}
}

// Of a nil table nothing is promised but that nothing panics.
func TestNilTable(t *testing.T) {
	x := several(t)
	for range salvage.Each(nil, x.b, 9) {
	}
	salvage.Files(nil, x.b, 9)
	salvage.Lost(nil, x.b, 9)
	salvage.Rebuild(nil, []api.File{sample.File("a", "x")}, 0)
}
