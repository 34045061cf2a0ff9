package disk_test

import (
	"bytes"
	"math"
	"slices"
	"testing"

	"bindle/api"
	"bindle/disk"
	"bindle/sample"
)

const (
	sector = 512
	whole  = 4096 * sector
)

// spoilt is the byte j of a sector that was never safe, by the chapter's words.
func spoilt(fill byte, place, j int) byte {
	return byte((int(fill) + 7*place + j) % 256)
}

func spoiltSectors(fill byte, first, last int) []byte {
	var b []byte
	for place := first; place <= last; place++ {
		for j := range sector {
			b = append(b, spoilt(fill, place, j))
		}
	}
	return b
}

// padded is b, and 0 behind it, n bytes in all.
func padded(b []byte, n int) []byte {
	return append(bytes.Clone(b), make([]byte, n-len(b))...)
}

func wantBytes(t *testing.T, what string, got, want []byte) {
	t.Helper()
	if len(got) != len(want) {
		t.Fatalf("%s: %d bytes, not %d", what, len(got), len(want))
	}
	for i := range got {
		if got[i] != want[i] {
			t.Fatalf("%s: byte %d is %x, not %x", what, i, got[i], want[i])
		}
	}
}

func write(t *testing.T, d *disk.Disk, at int, b []byte) {
	t.Helper()
	if e := d.Write(at, b); e != api.OK {
		t.Fatalf("Write of %d bytes at %d: %d", len(b), at, e)
	}
}

func read(t *testing.T, d *disk.Disk, at, n int) []byte {
	t.Helper()
	b, e := d.Read(at, n)
	if e != api.OK {
		t.Fatalf("Read(%d, %d): %d", at, n, e)
	}
	return b
}

func wantDisk(t *testing.T, what string, d *disk.Disk, size, waiting int) {
	t.Helper()
	if d.Size() != size || d.Waiting() != waiting {
		t.Errorf("%s: size %d, %d wait, not size %d, %d wait", what, d.Size(), d.Waiting(), size, waiting)
	}
}

func wantAll(t *testing.T, what string, d *disk.Disk, want []byte) {
	t.Helper()
	wantBytes(t, what, read(t, d, 0, d.Size()*sector), want)
}

// 4.1

func TestWriteExample(t *testing.T) {
	var d disk.Disk
	write(t, &d, 600, []byte{9})
	wantDisk(t, "the example", &d, 2, 1)
	want := make([]byte, 2*sector)
	want[600] = 9
	wantAll(t, "the example", &d, want)
}

func TestWriteSpans(t *testing.T) {
	for _, x := range []struct{ at, n, size, waiting int }{
		{0, 1, 1, 1}, {0, 511, 1, 1}, {0, 512, 1, 1}, {0, 513, 2, 2}, {511, 1, 1, 1}, {511, 2, 2, 2}, {512, 1, 2, 1}, {512, 512, 2, 1},
		{1, 1535, 3, 3}, {1, 1536, 4, 4}, {700, 1000, 4, 3}, {1023, 1, 2, 1}, {1024, 1024, 4, 2}, {5000, 3, 10, 1}, {0, 5120, 10, 10},
	} {
		var d disk.Disk
		b := sample.Bytes(x.n, uint32(x.at))
		write(t, &d, x.at, b)
		wantDisk(t, "a write", &d, x.size, x.waiting)
		want := make([]byte, x.size*sector)
		copy(want[x.at:], b)
		wantAll(t, "a write", &d, want)
	}
}

func TestWriteInto(t *testing.T) {
	var d disk.Disk
	want := sample.Bytes(3*sector, 1)
	write(t, &d, 0, want)
	b := sample.Bytes(600, 2)
	write(t, &d, 500, b)
	copy(want[500:], b)
	wantDisk(t, "over others", &d, 3, 6)
	wantAll(t, "over others", &d, want)
	write(t, &d, 3*sector-1, b[:2])
	want = padded(want, 4*sector)
	copy(want[3*sector-1:], b[:2])
	wantDisk(t, "over the end", &d, 4, 8)
	wantAll(t, "over the end", &d, want)
}

func TestWriteOfNoBytes(t *testing.T) {
	for _, b := range [][]byte{nil, {}} {
		var d disk.Disk
		for _, at := range []int{0, 1, 512, whole - 1, whole} {
			write(t, &d, at, b)
			wantDisk(t, "of no bytes", &d, 0, 0)
		}
		write(t, &d, 700, []byte{1})
		write(t, &d, 5000, b)
		wantDisk(t, "of no bytes, behind another one", &d, 2, 1)
		for _, at := range []int{-1, whole + 1} {
			if e := d.Write(at, b); e != api.ErrArg {
				t.Errorf("of no bytes at %d: %d", at, e)
			}
		}
	}
}

func TestWriteNowhere(t *testing.T) {
	var d disk.Disk
	kept := sample.Bytes(700, 3)
	write(t, &d, 0, kept)
	for _, x := range []struct{ at, n int }{
		{-1, 1}, {-1, 2}, {-600, 700}, {-1 << 32, 5}, {math.MinInt, 1}, {math.MinInt, 0},
		{whole, 1}, {whole - 1, 2}, {0, whole + 1}, {1, whole}, {whole + 1, 0}, {1 << 32, 1}, {math.MaxInt, 1}, {math.MaxInt - 1, 4}, {math.MaxInt, 0},
	} {
		if e := d.Write(x.at, make([]byte, x.n)); e != api.ErrArg {
			t.Errorf("%d bytes at %d: %d", x.n, x.at, e)
		}
		wantDisk(t, "nowhere", &d, 2, 2)
	}
	wantAll(t, "nowhere", &d, padded(kept, 2*sector))
}

func TestWriteToTheLastByte(t *testing.T) {
	var d disk.Disk
	write(t, &d, whole-1, []byte{7})
	wantDisk(t, "the last byte", &d, 4096, 1)
	wantBytes(t, "the last byte", read(t, &d, whole-2, 2), []byte{0, 7})
	var all disk.Disk
	b := sample.Bytes(whole, 4)
	write(t, &all, 0, b)
	wantDisk(t, "all bytes", &all, 4096, 4096)
	wantAll(t, "all bytes", &all, b)
}

func TestRead(t *testing.T) {
	var d disk.Disk
	b := sample.Bytes(3*sector, 5)
	write(t, &d, 0, b)
	for _, at := range []int{0, 1, 511, 512, 513, 1000, 1535} {
		for _, n := range []int{0, 1, 2, 511, 512, 513, 1536, 2000} {
			want := padded(b, at+n+len(b))[at : at+n]
			wantBytes(t, "in it and beyond", read(t, &d, at, n), want)
		}
	}
	for _, at := range []int{1536, 1537, 9999, whole - 4} {
		wantBytes(t, "beyond the size", read(t, &d, at, 4), make([]byte, 4))
	}
	wantBytes(t, "none at the end", read(t, &d, whole, 0), nil)
	wantBytes(t, "all there may be", read(t, &d, 0, whole), padded(b, whole))
	wantDisk(t, "behind reads", &d, 3, 3)
}

func TestReadNowhere(t *testing.T) {
	var d disk.Disk
	write(t, &d, 0, sample.Bytes(100, 6))
	for _, x := range []struct{ at, n int }{
		{-1, 0}, {-1, 1}, {-1, 5}, {0, -1}, {5, -1}, {-3, -3}, {math.MinInt, 0}, {0, math.MinInt}, {math.MinInt, math.MinInt},
		{whole, 1}, {whole + 1, 0}, {whole - 1, 2}, {0, whole + 1}, {1, whole}, {whole + 5, -5}, {math.MaxInt, 1}, {1, math.MaxInt}, {math.MaxInt, math.MaxInt}, {math.MaxInt, 0},
	} {
		if b, e := d.Read(x.at, x.n); e != api.ErrArg || len(b) != 0 {
			t.Errorf("Read(%d, %d): %d bytes, %d", x.at, x.n, len(b), e)
		}
	}
}

func TestNeed(t *testing.T) {
	var empty, five disk.Disk
	write(t, &five, 4*sector, []byte{1})
	for _, x := range []struct{ at, n, ofEmpty, ofFive int }{
		{0, 0, 0, 5}, {9999, 0, 0, 5}, {whole, 0, 0, 5}, {0, 1, 1, 5}, {0, 512, 1, 5}, {0, 513, 2, 5}, {511, 1, 1, 5}, {511, 2, 2, 5}, {512, 1, 2, 5},
		{2559, 1, 5, 5}, {2559, 2, 6, 6}, {2560, 1, 6, 6}, {whole - 1, 1, 4096, 4096}, {0, whole, 4096, 4096},
	} {
		if n, ok := empty.Need(x.at, x.n); n != x.ofEmpty || !ok {
			t.Errorf("of an empty one, Need(%d, %d): %d %t, not %d", x.at, x.n, n, ok, x.ofEmpty)
		}
		if n, ok := five.Need(x.at, x.n); n != x.ofFive || !ok {
			t.Errorf("of five sectors, Need(%d, %d): %d %t, not %d", x.at, x.n, n, ok, x.ofFive)
		}
	}
	wantDisk(t, "who was asked", &five, 5, 1)
	for _, x := range []struct{ at, n int }{
		{-1, 0}, {-1, 1}, {-5, 9}, {0, -1}, {700, -1}, {math.MinInt, 1}, {1, math.MinInt}, {whole, 1}, {whole + 1, 0}, {whole + 1, -1}, {1, whole}, {math.MaxInt, 1}, {1, math.MaxInt}, {math.MaxInt, math.MaxInt},
	} {
		if n, ok := five.Need(x.at, x.n); n != 0 || ok {
			t.Errorf("Need(%d, %d): %d %t", x.at, x.n, n, ok)
		}
	}
}

// What a Write leads to is just what Need told.
func TestNeedIsWhatWriteLeadsTo(t *testing.T) {
	var d disk.Disk
	for i := range 200 {
		at, n := i*i*37%6000, i*91%1500
		need, ok := d.Need(at, n)
		write(t, &d, at, sample.Bytes(n, uint32(i)))
		if !ok || d.Size() != need {
			t.Fatalf("Need(%d, %d): %d %t, and then size %d", at, n, need, ok, d.Size())
		}
	}
}

func TestNewMemory(t *testing.T) {
	var d disk.Disk
	b := sample.Bytes(2*sector, 7)
	want := bytes.Clone(b)
	write(t, &d, 0, b)
	clear(b)
	wantAll(t, "behind a change of what was handed in", &d, want)
	got := read(t, &d, 0, 100)
	got = got[:cap(got)]
	clear(got)
	wantAll(t, "behind a change of an answer", &d, want)
	got = read(t, &d, 0, 100)
	write(t, &d, 0, make([]byte, sector))
	wantBytes(t, "an answer, behind a write", got, want[:100])
	d.Crash([]bool{true, true}, 0)
	wantAll(t, "what waited, behind changes", &d, want)
}

// 4.2

func TestSync(t *testing.T) {
	var d disk.Disk
	d.Sync()
	wantDisk(t, "of an empty one", &d, 0, 0)
	b := sample.Bytes(3*sector, 8)
	write(t, &d, 0, b)
	d.Sync()
	wantDisk(t, "behind a Sync", &d, 3, 0)
	wantAll(t, "behind a Sync", &d, b)
	write(t, &d, 600, []byte("new"))
	wantDisk(t, "behind a write anew", &d, 3, 1)
	d.Crash(nil, 200)
	wantDisk(t, "behind a crash", &d, 3, 0)
	wantAll(t, "behind a crash", &d, b)
}

// What a Sync made safe isn't the memory that is written on.
func TestSyncTwice(t *testing.T) {
	var d disk.Disk
	write(t, &d, 0, sample.Bytes(2*sector, 9))
	d.Sync()
	b := sample.Bytes(3*sector, 10)
	write(t, &d, 0, b)
	d.Sync()
	write(t, &d, 100, sample.Bytes(1000, 11))
	d.Crash(nil, 1)
	wantAll(t, "behind two of them", &d, b)
}

// A Sync makes safe what came by growing, too, though nobody wrote it.
func TestSyncOfAGap(t *testing.T) {
	var d disk.Disk
	write(t, &d, 3*sector, []byte{5})
	d.Sync()
	d.Crash(nil, 77)
	wantAll(t, "a gap, synced", &d, padded(append(make([]byte, 3*sector), 5), 4*sector))
}

func TestCrashOfAnEmptyOne(t *testing.T) {
	var d disk.Disk
	d.Crash([]bool{true, true}, 3)
	wantDisk(t, "of an empty one", &d, 0, 0)
	write(t, &d, 0, []byte{1})
	wantDisk(t, "written behind it", &d, 1, 1)
}

func TestCrashOfWhatWasNeverSafe(t *testing.T) {
	for _, fill := range []byte{0, 1, 100, 255} {
		var d disk.Disk
		write(t, &d, 40*sector+3, sample.Bytes(sector, 12))
		d.Crash(nil, fill)
		wantDisk(t, "nothing safe", &d, 42, 0)
		wantAll(t, "nothing safe", &d, spoiltSectors(fill, 0, 41))
	}
	var d disk.Disk
	write(t, &d, 0, []byte{1})
	d.Crash(nil, 250)
	wantBytes(t, "some of its bytes", read(t, &d, 0, 8), []byte{250, 251, 252, 253, 254, 255, 0, 1})
}

func TestCrashBehindASync(t *testing.T) {
	var d disk.Disk
	b := sample.Bytes(2*sector, 13)
	write(t, &d, 0, b)
	d.Sync()
	write(t, &d, sector, sample.Bytes(3*sector, 14))
	d.Crash(nil, 9)
	wantDisk(t, "two safe, two not", &d, 4, 0)
	wantAll(t, "two safe, two not", &d, append(b, spoiltSectors(9, 2, 3)...))
}

// What a crash left is safe: the next one leaves it.
func TestCrashTwice(t *testing.T) {
	var d disk.Disk
	b := sample.Bytes(3*sector, 15)
	write(t, &d, 0, b)
	d.Crash([]bool{false, true}, 9)
	want := append(spoiltSectors(9, 0, 0), b[sector:2*sector]...)
	want = append(want, spoiltSectors(9, 2, 2)...)
	wantAll(t, "a crash", &d, want)
	d.Crash([]bool{true, true, true}, 33)
	wantAll(t, "the next one", &d, want)
	write(t, &d, 100, sample.Bytes(500, 16))
	d.Crash(nil, 44)
	wantAll(t, "the one behind a write", &d, want)
}

// Each sector that waits is one as it was right behind its write; the later one that is kept counts.
func TestCrashKeepsInOrder(t *testing.T) {
	first, second, third := sample.Bytes(sector, 17), sample.Bytes(200, 18), sample.Bytes(sector, 19)
	behindSecond := append(append(bytes.Clone(first[:100]), second...), first[300:]...)
	safe := bytes.Repeat([]byte{3}, sector)
	for _, x := range []struct {
		keep []bool
		want []byte
	}{
		{nil, safe}, {[]bool{}, safe}, {[]bool{false, false, false}, safe},
		{[]bool{true}, first}, {[]bool{true, false, false}, first},
		{[]bool{false, true}, behindSecond}, {[]bool{true, true, false}, behindSecond},
		{[]bool{false, false, true}, third}, {[]bool{true, true, true}, third}, {[]bool{true, false, true, true, true}, third},
		{[]bool{false, false, false, true, true}, safe},
	} {
		var d disk.Disk
		write(t, &d, 0, safe)
		d.Sync()
		write(t, &d, 0, first)
		write(t, &d, 100, second)
		write(t, &d, 0, third)
		wantDisk(t, "three writes", &d, 1, 3)
		d.Crash(x.keep, 1)
		wantDisk(t, "a crash", &d, 1, 0)
		wantAll(t, "a crash", &d, x.want)
	}
}

// Marks are those of what waits, not of sectors: of a write that spans several, each has its own, the lowest sector first.
func TestCrashKeepsSomeOfASpan(t *testing.T) {
	b := sample.Bytes(4*sector, 20)
	for marks := range 16 {
		var d disk.Disk
		write(t, &d, 2*sector, b)
		wantDisk(t, "a span", &d, 6, 4)
		var keep []bool
		want := spoiltSectors(6, 0, 5)
		for k := range 4 {
			keep = append(keep, marks>>k&1 == 1)
			if keep[k] {
				copy(want[(2+k)*sector:], b[k*sector:(k+1)*sector])
			}
		}
		kept := slices.Clone(keep)
		d.Crash(keep, 6)
		wantAll(t, "a span", &d, want)
		if !slices.Equal(keep, kept) {
			t.Errorf("the marks: %t, not %t", keep, kept)
		}
	}
}

func TestNilDisk(t *testing.T) {
	var d *disk.Disk
	for _, n := range []int{math.MinInt, -1, 0, 1, 512, whole, math.MaxInt} {
		if e := d.Write(n, []byte{1}); e != api.ErrArg {
			t.Errorf("Write at %d: %d", n, e)
		}
		if e := d.Write(n, nil); e != api.ErrArg {
			t.Errorf("Write of nothing at %d: %d", n, e)
		}
		if b, e := d.Read(0, n); len(b) != 0 || e != api.ErrArg {
			t.Errorf("Read of %d: %d bytes, %d", n, len(b), e)
		}
		if size, ok := d.Need(0, n); size != 0 || ok {
			t.Errorf("Need of %d: %d %t", n, size, ok)
		}
	}
	d.Sync()
	d.Crash([]bool{true}, 1)
	wantDisk(t, "a nil one", d, 0, 0)
}

// 4.3

func TestWhatWasSyncedIsThere(t *testing.T) {
	for _, keep := range [][]bool{nil, {true}, {true, true, true, true, true, true}} {
		var d disk.Disk
		write(t, &d, 700, sample.Bytes(2000, 21))
		d.Sync()
		want := read(t, &d, 0, 6*sector)
		d.Crash(keep, 5)
		wantAll(t, "synced", &d, want)
	}
}

func TestACrashThatKeepsAllIsNone(t *testing.T) {
	var d disk.Disk
	write(t, &d, 0, sample.Bytes(5*sector, 22))
	d.Sync()
	write(t, &d, 100, sample.Bytes(1000, 23))
	write(t, &d, 4*sector+9, sample.Bytes(1200, 24))
	write(t, &d, 4*sector, sample.Bytes(2*sector, 25))
	want := read(t, &d, 0, d.Size()*sector)
	keep := make([]bool, d.Waiting())
	for i := range keep {
		keep[i] = true
	}
	d.Crash(keep, 8)
	wantAll(t, "all kept", &d, want)
}

// slow is a disk by the chapter's words, sector by sector.
type slow struct {
	now   [][sector]byte
	safe  map[int][sector]byte
	waits []slowSector
}

type slowSector struct {
	place int
	bytes [sector]byte
}

func (s *slow) write(at int, b []byte) {
	for place := at / sector; len(b) > 0; place++ {
		for len(s.now) <= place {
			s.now = append(s.now, [sector]byte{})
		}
		n := copy(s.now[place][at-place*sector:], b)
		s.waits = append(s.waits, slowSector{place, s.now[place]})
		at, b = at+n, b[n:]
	}
}

func (s *slow) sync() {
	s.safe, s.waits = map[int][sector]byte{}, nil
	for place, b := range s.now {
		s.safe[place] = b
	}
}

func (s *slow) crash(keep []bool, fill byte) {
	for place := range s.now {
		b, ok := s.safe[place]
		for j := range sector {
			if !ok {
				b[j] = spoilt(fill, place, j)
			}
		}
		s.now[place] = b
	}
	for i, w := range s.waits {
		if i < len(keep) && keep[i] {
			s.now[w.place] = w.bytes
		}
	}
	s.sync()
}

func (s *slow) all() []byte {
	var b []byte
	for _, x := range s.now {
		b = append(b, x[:]...)
	}
	return b
}

func TestByTheWords(t *testing.T) {
	for seed := range uint32(60) {
		var d disk.Disk
		var s slow
		dice := sample.Bytes(400, seed)
		for i := 0; i+4 < len(dice); i += 5 {
			switch x := dice[i] % 16; {
			case x < 11:
				at := int(dice[i+1])*17 + int(dice[i+2])%3*sector
				b := sample.Bytes(int(dice[i+3])*int(dice[i+4]%9), uint32(i))
				write(t, &d, at, b)
				s.write(at, b)
			case x < 13:
				d.Sync()
				s.sync()
			default:
				var keep []bool
				for k := range int(dice[i+1]) % (len(s.waits) + 3) {
					keep = append(keep, dice[k%len(dice)]&32 != 0)
				}
				d.Crash(keep, dice[i+2])
				s.crash(keep, dice[i+2])
			}
			wantDisk(t, "by the words", &d, len(s.now), len(s.waits))
			wantAll(t, "by the words", &d, s.all())
		}
	}
}
