package scan_test

import (
	"bytes"
	"fmt"
	"math"
	"slices"
	"strings"
	"testing"

	"bindle/api"
	"bindle/crc"
	"bindle/record"
	"bindle/sample"
	"bindle/scan"
	"bindle/stone"
)

// laid is bytes of which records stand from 1024 on, and what these are.
type laid struct {
	t    *testing.T
	c    crc.Table
	b    []byte
	rows []record.Record
}

func lay(t *testing.T) *laid {
	return &laid{t: t, c: crc.Make(), b: sample.Bytes(1024, 1)}
}

func (x *laid) add(b []byte, e api.Errno) {
	x.t.Helper()
	at := len(x.b)
	x.b = append(x.b, b...)
	r, te := record.Take(&x.c, x.b, at)
	if e != api.OK || te != api.OK {
		x.t.Fatalf("no record: %d %d", e, te)
	}
	x.rows = append(x.rows, r)
}

func (x *laid) put(name, data string) {
	x.t.Helper()
	x.add(record.Put(&x.c, name, []byte(data), 1))
}

func (x *laid) stream(name string, rows ...string) {
	x.t.Helper()
	var l [][]byte
	for _, s := range rows {
		l = append(l, []byte(s))
	}
	x.add(record.Stream(&x.c, name, l))
}

func (x *laid) gone(name string) {
	x.t.Helper()
	x.add(stone.Put(&x.c, name))
}

// live is what is live by the chapter's words: of each record that is a member's, is none of its name behind it?
func live(rows []record.Record) []api.Member {
	var l []api.Member
	for i, r := range rows {
		last := r.Kind == record.Live
		for _, behind := range rows[i+1:] {
			last = last && behind.Member.Name != r.Member.Name
		}
		if last {
			l = append(l, r.Member)
		}
	}
	slices.SortFunc(l, func(a, b api.Member) int { return strings.Compare(a.Name, b.Name) })
	return l
}

func waste(rows []record.Record) int {
	n := 0
	for _, r := range rows {
		if !slices.Contains(live(rows), r.Member) {
			n += r.Next - r.Member.At
		}
	}
	return n
}

func each(c *crc.Table, b []byte, end int) []record.Record {
	var rows []record.Record
	for i, r := range scan.Each(c, b, end) {
		if i != len(rows) {
			panic("not numbered from 0 on")
		}
		rows = append(rows, r)
	}
	return rows
}

// wantAll holds what a scan finds up to an end behind some records.
func wantAll(t *testing.T, x *laid, b []byte, end int, rows []record.Record) {
	t.Helper()
	if got := each(&x.c, b, end); !slices.Equal(got, rows) {
		t.Errorf("up to %d: Each: %v, not %v", end, got, rows)
	}
	if l, at, e := scan.Live(&x.c, b, end); !slices.Equal(l, live(rows)) || at != end || e != api.OK {
		t.Errorf("up to %d: Live: %v %d %d, not %v", end, l, at, e, live(rows))
	}
	gone := 0
	for _, r := range rows {
		gone += r.Kind - 1
	}
	if p, g, e := scan.Count(&x.c, b, end); p != len(rows)-gone || g != gone || e != api.OK {
		t.Errorf("up to %d: Count: %d %d %d", end, p, g, e)
	}
	if n, e := scan.Waste(&x.c, b, end); n != waste(rows) || e != api.OK {
		t.Errorf("up to %d: Waste: %d %d, not %d", end, n, e, waste(rows))
	}
}

// wantRefused holds what a scan is refused with, and which records are told ahead of that.
func wantRefused(t *testing.T, what string, x *laid, b []byte, end int, rows []record.Record, at int, e api.Errno) {
	t.Helper()
	if got := each(&x.c, b, end); !slices.Equal(got, rows) {
		t.Errorf("%s: Each: %v, not %v", what, got, rows)
	}
	if l, gotAt, ge := scan.Live(&x.c, b, end); len(l) != 0 || gotAt != at || ge != e {
		t.Errorf("%s: Live: %v %d %d, not %d %d", what, l, gotAt, ge, at, e)
	}
	if p, g, ge := scan.Count(&x.c, b, end); p != 0 || g != 0 || ge != e {
		t.Errorf("%s: Count: %d %d %d, not %d", what, p, g, ge, e)
	}
	if n, ge := scan.Waste(&x.c, b, end); n != 0 || ge != e {
		t.Errorf("%s: Waste: %d %d, not %d", what, n, ge, e)
	}
}

// several are records of all kinds: a is put three times, and once taken away between, b taken away at last, c streamed, d taken away that was never there.
func several(t *testing.T) *laid {
	x := lay(t)
	x.put("b", "bb")
	x.put("a", "first")
	x.stream("c", "cc", "c")
	x.gone("a")
	x.put("a", "second")
	x.gone("d")
	x.put("a", strings.Repeat("third", 50))
	x.put("aa", "")
	x.gone("b")
	return x
}

// 23.1

func TestUpToEachRecord(t *testing.T) {
	x := several(t)
	wantAll(t, x, x.b, 1024, nil)
	for i, r := range x.rows {
		wantAll(t, x, x.b, r.Next, x.rows[:i+1])
		wantAll(t, x, x.b[:r.Next], r.Next, x.rows[:i+1])
		wantAll(t, x, append(bytes.Clone(x.b[:r.Next]), "something behind"...), r.Next, x.rows[:i+1])
	}
	if l, _, _ := scan.Live(&x.c, x.b, len(x.b)); len(l) != 3 || l[0].Name != "a" || l[1].Name != "aa" || l[2].Name != "c" || l[0].Size != 250 {
		t.Errorf("by hand: %v", l)
	}
	if p, g, _ := scan.Count(&x.c, x.b, len(x.b)); p != 6 || g != 3 {
		t.Errorf("by hand: %d %d", p, g)
	}
}

func TestExample(t *testing.T) {
	x := lay(t)
	wantAll(t, x, x.b, 1024, nil)
}

func TestNoEnd(t *testing.T) {
	x := several(t)
	for _, end := range []int{math.MinInt, -1, 0, 1, 1023, len(x.b) + 1, len(x.b) + 2, math.MaxInt} {
		wantRefused(t, "no end", x, x.b, end, nil, 0, api.ErrArg)
	}
	for _, n := range []int{0, 1, 1023} {
		for _, end := range []int{n, 1024, 1025} {
			wantRefused(t, "too few bytes", x, x.b[:n], end, nil, 0, api.ErrArg)
		}
	}
}

// What goes beyond the end is refused with ErrSize, where it is there; else as its layer says.
func TestBeyondTheEnd(t *testing.T) {
	x := several(t)
	for i, r := range x.rows {
		for end := r.Member.At + 1; end < r.Next; end++ {
			wantRefused(t, "beyond the end", x, x.b, end, x.rows[:i], r.Member.At, api.ErrSize)
			wantRefused(t, "not all there", x, x.b[:end], end, x.rows[:i], r.Member.At, api.ErrEnd)
		}
	}
}

func TestSpoilt(t *testing.T) {
	x := several(t)
	for i, r := range x.rows {
		for at := r.Member.At; at < r.Member.At+8; at++ {
			spoilt := bytes.Clone(x.b)
			spoilt[at] ^= 0x20
			_, e := record.Take(&x.c, spoilt, r.Member.At)
			if e == api.OK {
				t.Fatal("not spoilt")
			}
			wantRefused(t, "spoilt", x, spoilt, len(spoilt), x.rows[:i], r.Member.At, e)
			wantAll(t, x, spoilt, r.Member.At, x.rows[:i])
		}
	}
	wantRefused(t, "none at the begin", x, make([]byte, 1200), 1200, nil, 1024, api.ErrForm)
	tail := append(bytes.Clone(x.b), "xyz"...)
	wantRefused(t, "three others behind", x, tail, len(tail), x.rows, len(x.b), api.ErrEnd)
}

func TestLimit(t *testing.T) {
	x := lay(t)
	for i := range 200 {
		x.put(fmt.Sprintf("n%03d", 199-i), "x")
	}
	wantAll(t, x, x.b, len(x.b), x.rows)
	x.put("n007", "yy")
	wantAll(t, x, x.b, len(x.b), x.rows)
	x.put("o", "")
	at := len(x.b)
	if l, gotAt, e := scan.Live(&x.c, x.b, at); len(l) != 0 || gotAt != at || e != api.ErrLimit {
		t.Errorf("of 201: Live: %v %d %d", l, gotAt, e)
	}
	if n, e := scan.Waste(&x.c, x.b, at); n != 0 || e != api.ErrLimit {
		t.Errorf("of 201: Waste: %d %d", n, e)
	}
	if p, g, e := scan.Count(&x.c, x.b, at); p != 202 || g != 0 || e != api.OK {
		t.Errorf("of 201: Count: %d %d %d", p, g, e)
	}
	if got := each(&x.c, x.b, at); !slices.Equal(got, x.rows) {
		t.Error("of 201: Each")
	}
	tail := append(bytes.Clone(x.b), 'x')
	if _, gotAt, e := scan.Live(&x.c, tail, at+1); gotAt != at || e != api.ErrEnd {
		t.Errorf("of 201, and what is none: %d %d", gotAt, e)
	}
	x.gone("n100")
	wantAll(t, x, x.b, len(x.b), x.rows)
}

func TestEachIsLeft(t *testing.T) {
	x := several(t)
	for n := range x.rows {
		told := 0
		for range scan.Each(&x.c, x.b, len(x.b)) {
			told++
			if told > n {
				break
			}
		}
		if told != n+1 {
			t.Errorf("left behind %d: %d told", n+1, told)
		}
	}
}

// An iterator tells the same each time, whatever is done with the bytes since.
func TestEachKeepsNothingThatIsHandedIn(t *testing.T) {
	x := several(t)
	all := scan.Each(&x.c, x.b, len(x.b))
	clear(x.b)
	for range 2 {
		var rows []record.Record
		for _, r := range all {
			rows = append(rows, r)
		}
		if !slices.Equal(rows, x.rows) {
			t.Errorf("%v, not %v", rows, x.rows)
		}
	}
}

func TestNothingIsChanged(t *testing.T) {
	x := several(t)
	kept := bytes.Clone(x.b)
	l, _, _ := scan.Live(&x.c, x.b, len(x.b))
	scan.Count(&x.c, x.b, len(x.b))
	scan.Waste(&x.c, x.b, len(x.b))
	each(&x.c, x.b, len(x.b))
	if !bytes.Equal(kept, x.b) || x.c != crc.Make() {
		t.Error("changed")
	}
	clear(x.b)
	if !slices.Equal(l, live(x.rows)) {
		t.Error("the answer isn't new memory")
	}
}

// 23.2

func TestApply(t *testing.T) {
	m := func(name string, at int) api.Member { return api.Member{Name: name, At: at, Size: 7} }
	b, d := m("b", 1), m("d", 2)
	row := func(kind int, name string) record.Record {
		return record.Record{Kind: kind, Member: m(name, 9), Next: 99}
	}
	for _, x := range []struct {
		l    []api.Member
		r    record.Record
		want []api.Member
	}{
		{nil, row(record.Live, "c"), []api.Member{m("c", 9)}},
		{nil, row(record.Gone, "c"), nil},
		{[]api.Member{b, d}, row(record.Live, "a"), []api.Member{m("a", 9), b, d}},
		{[]api.Member{b, d}, row(record.Live, "c"), []api.Member{b, m("c", 9), d}},
		{[]api.Member{b, d}, row(record.Live, "da"), []api.Member{b, d, m("da", 9)}},
		{[]api.Member{b, d}, row(record.Live, "b"), []api.Member{m("b", 9), d}},
		{[]api.Member{b, d}, row(record.Live, "d"), []api.Member{b, m("d", 9)}},
		{[]api.Member{b, d}, row(record.Gone, "b"), []api.Member{d}},
		{[]api.Member{b, d}, row(record.Gone, "d"), []api.Member{b}},
		{[]api.Member{b}, row(record.Gone, "b"), nil},
		{[]api.Member{b, d}, row(record.Gone, "c"), []api.Member{b, d}},
		{[]api.Member{b, d}, row(0, "b"), []api.Member{b, d}},
		{[]api.Member{b, d}, row(3, "c"), []api.Member{b, d}},
		{[]api.Member{b, d}, row(3, "b"), []api.Member{b, d}},
		{[]api.Member{b, d}, row(-1, "b"), []api.Member{b, d}},
		{[]api.Member{b, d}, row(math.MaxInt, "c"), []api.Member{b, d}},
	} {
		l := slices.Clone(x.l)
		l = append(l, m("spare", 1))[:len(l)]
		got := scan.Apply(l, x.r)
		if !slices.Equal(got, x.want) {
			t.Errorf("Apply(%v, %v): %v, not %v", x.l, x.r, got, x.want)
		}
		if !slices.Equal(l, x.l) || l[:len(l)+1][len(l)].Name != "spare" {
			t.Error("the list is changed")
		}
		for i := range got {
			got[i] = api.Member{}
		}
		if !slices.Equal(l, x.l) {
			t.Error("the answer isn't new memory")
		}
	}
}

// 23.3

func TestLiveIsAllApplied(t *testing.T) {
	dice := sample.Dice(23)
	for range 30 {
		x := lay(t)
		var l []api.Member
		for range 40 {
			name := string(rune('a' + dice(8)))
			switch dice(4) {
			case 0:
				x.gone(name)
			case 1:
				x.stream(name, strings.Repeat("s", dice(9)), "t")
			default:
				x.put(name, strings.Repeat("p", dice(99)))
			}
			l = scan.Apply(l, x.rows[len(x.rows)-1])
			wantAll(t, x, x.b, len(x.b), x.rows)
			if !slices.Equal(l, live(x.rows)) {
				t.Fatalf("applied: %v, not %v", l, live(x.rows))
			}
		}
		ahead := x.rows[20].Member.At
		if !slices.Equal(each(&x.c, x.b, ahead), each(&x.c, x.b, len(x.b))[:20]) {
			t.Fatal("a scan that goes on doesn't begin alike")
		}
	}
}

// Of a nil table nothing is promised but that nothing panics.
func TestNilTable(t *testing.T) {
	x := several(t)
	each(nil, x.b, len(x.b))
	scan.Live(nil, x.b, len(x.b))
	scan.Count(nil, x.b, len(x.b))
	scan.Waste(nil, x.b, len(x.b))
}
