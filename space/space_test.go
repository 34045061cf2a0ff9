package space_test

import (
	"bytes"
	"fmt"
	"math"
	"testing"

	"bindle/api"
	"bindle/codec"
	"bindle/crc"
	"bindle/foot"
	"bindle/local"
	"bindle/record"
	"bindle/sample"
	"bindle/space"
	"bindle/stone"
)

const most = 1 << 21

// 26.1

func TestConstants(t *testing.T) {
	if space.Fixed != 22 || space.Row != 18 || space.Foot != 20 || space.Most != most {
		t.Error("other numbers")
	}
}

func TestPiecesAndSectors(t *testing.T) {
	for _, x := range []struct{ n, pieces, sectors int }{
		{math.MinInt, 0, 0}, {-1, 0, 0}, {0, 0, 0}, {1, 1, 1}, {511, 1, 1}, {512, 1, 1}, {513, 1, 2}, {1024, 1, 2}, {1025, 1, 3},
		{65534, 1, 128}, {65535, 1, 128}, {65536, 2, 128}, {65537, 2, 129}, {131070, 2, 256}, {131071, 3, 256}, {most, 33, 4096},
		{1<<31 - 1, 32769, 1 << 22}, {math.MaxInt, math.MaxInt/65535 + 1, 1 << 54},
	} {
		if p, s := space.Pieces(x.n), space.Sectors(x.n); p != x.pieces || s != x.sectors {
			t.Errorf("of %d: %d pieces, %d sectors", x.n, p, s)
		}
	}
	for _, n := range []int{0, 1, 65535, 65536} {
		if len(codec.Piece(make([]byte, n))) != n+2*space.Pieces(n) {
			t.Errorf("of %d: other pieces than the codec's", n)
		}
	}
}

func TestFits(t *testing.T) {
	numbers := []int{math.MinInt, -most, -1, 0, 1, 20, 1024, most / 3, most / 2, most - 1024, most - 20, most - 1, most, most + 1, math.MaxInt - 1, math.MaxInt}
	for _, end := range numbers {
		for _, more := range numbers {
			for _, dir := range numbers {
				want := true
				for _, n := range []int{end, more, dir} {
					want = want && n >= 0 && n <= most
				}
				want = want && end+more+dir <= most
				if space.Fits(end, more, dir) != want {
					t.Errorf("Fits(%d, %d, %d): %t", end, more, dir, !want)
				}
			}
		}
	}
}

func TestCapacity(t *testing.T) {
	for bound, want := range map[int]int{math.MinInt: 0, -1: 0, 0: 0, 1: 2, 512: 2, 513: 4, 1044: 6, 1089: 6, most - 1: 8192, most: 8192, most + 1: 0, math.MaxInt: 0} {
		if space.Capacity(bound) != want {
			t.Errorf("Capacity(%d): %d, not %d", bound, space.Capacity(bound), want)
		}
	}
}

// 26.2

func wantIssued(t *testing.T, what string, l *space.Ledger, want int) {
	t.Helper()
	if l.Issued() != want {
		t.Errorf("%s: %d issued, not %d", what, l.Issued(), want)
	}
}

func TestLedger(t *testing.T) {
	var l space.Ledger
	wantIssued(t, "nothing", &l, 0)
	if n := l.Bound(nil); n != 1044 {
		t.Errorf("the bound of nothing: %d", n)
	}
	l.Put("a", 3)
	wantIssued(t, "the example", &l, 26)
	live := []api.File{{Name: "a", Data: []byte("abc")}}
	if n := l.Bound(live); n != 1089 {
		t.Errorf("the example: %d", n)
	}
	l.Put("bb", 100)
	wantIssued(t, "one more", &l, 26+124)
	l.Delete("a")
	wantIssued(t, "a tombstone", &l, 26+124+23)
	l.Stream("ccc")
	wantIssued(t, "a stream", &l, 26+124+23+47)
	l.More(5)
	wantIssued(t, "more of it", &l, 26+124+23+47+7)
	live = []api.File{{Name: "a"}, {Name: "ccc", Data: make([]byte, 9)}}
	if n := l.Bound(live); n != 1024+227+19+21+20 {
		t.Errorf("the bound: %d", n)
	}
	wantIssued(t, "asked", &l, 227)
	l.Vacuum(live)
	wantIssued(t, "a Vacuum", &l, 23+22+3+9)
	l.Vacuum(nil)
	wantIssued(t, "a Vacuum of nothing", &l, 0)
	l.Put("", 0)
	wantIssued(t, "no name", &l, 22)
}

func TestSizes(t *testing.T) {
	for size, counts := range map[int]int{math.MinInt: 0, -1: 0, 0: 0, 1: 1, 65535: 65535, 65536: 65536, 65537: 65536, math.MaxInt: 65536} {
		var put, more space.Ledger
		put.Put("ab", size)
		wantIssued(t, fmt.Sprintf("a Put of %d", size), &put, 24+counts)
		more.More(size)
		pieces := 0
		if counts > 0 {
			pieces++
		}
		if counts > 65535 {
			pieces++
		}
		wantIssued(t, fmt.Sprintf("%d more", size), &more, counts+2*pieces)
	}
	var l space.Ledger
	l.Vacuum([]api.File{{Name: "a", Data: make([]byte, 65537)}})
	wantIssued(t, "a Vacuum of too many", &l, 23+65536)
}

func TestANilLedger(t *testing.T) {
	var l *space.Ledger
	l.Put("a", 3)
	l.Delete("a")
	l.Stream("a")
	l.More(3)
	l.Vacuum([]api.File{{Name: "a"}})
	if l.Issued() != 0 || l.Bound(nil) != 0 || l.Bound([]api.File{{Name: "a"}}) != 0 {
		t.Error("a nil ledger has something")
	}
}

// 26.3

func TestNoRecordHasMoreThanItTakes(t *testing.T) {
	c := crc.Make()
	dice := sample.Dice(26)
	for i := range 100 {
		name := string(bytes.Repeat([]byte{'n'}, 1+dice(64)))
		var put, gone, stream space.Ledger
		data := sample.Bytes(dice(2000), uint32(i))
		if i%3 == 0 {
			data = make([]byte, 65536-dice(3))
		}
		put.Put(name, len(data))
		b, _ := record.Put(&c, name, data, dice(4)-1)
		gone.Delete(name)
		tomb, _ := stone.Put(&c, name)
		cut := dice(len(data) + 1)
		stream.Stream(name)
		stream.More(cut)
		stream.More(len(data) - cut)
		rows, _ := record.Stream(&c, name, [][]byte{data[:cut], data[cut:]})
		if len(b) > put.Issued() || len(tomb) > gone.Issued() || len(rows) != stream.Issued() {
			t.Fatalf("%d %d, %d %d, %d %d", len(b), put.Issued(), len(tomb), gone.Issued(), len(rows), stream.Issued())
		}
		if len(data)+local.Len(name) != put.Issued() {
			t.Fatal("what isn't packed takes just that")
		}
	}
}

func TestTheBoundNeverFallsButByVacuum(t *testing.T) {
	dice := sample.Dice(27)
	for range 50 {
		var l space.Ledger
		var live []api.File
		for range 60 {
			ahead := l.Bound(live)
			name := string(rune('a' + dice(26)))
			switch dice(5) {
			case 0:
				l.Delete(name)
			case 1:
				l.Stream(name)
			case 2:
				l.More(dice(99) - 5)
			case 3:
				l.Put(name, dice(99)-5)
			case 4:
				data := make([]byte, dice(50))
				l.Put(name, len(data))
				if len(live) < 20 {
					live = append(live, api.File{Name: name + fmt.Sprint(len(live)), Data: data})
					l.Put(live[len(live)-1].Name, len(data))
				}
			}
			if l.Bound(live) < ahead {
				t.Fatal("the bound falls")
			}
		}
		ahead := l.Bound(live)
		l.Vacuum(live)
		if l.Bound(live) > ahead {
			t.Fatal("a Vacuum raises the bound")
		}
	}
}

// A directory takes what the bound has for it.
func TestTheBoundHasADirectory(t *testing.T) {
	c := crc.Make()
	var l space.Ledger
	var live []api.File
	var members []api.Member
	for i := range 26 {
		name := string(rune('a' + i))
		live = append(live, api.File{Name: name})
		members = append(members, api.Member{Name: name, At: 1024, From: 1024 + local.Len(name)})
		b, _ := foot.Write(&c, members)
		if l.Bound(live) != 1024+len(b) {
			t.Fatalf("of %d: %d, not %d", i+1, l.Bound(live), 1024+len(b))
		}
	}
}
