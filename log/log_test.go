package log_test

import (
	"math"
	"slices"
	"strconv"
	"strings"
	"testing"

	"haywain/api"
	"haywain/disk"
	"haywain/log"
)

func set(key, val string) api.Change { return api.Change{Key: key, Val: val} }

func gone(key string) api.Change { return api.Change{Key: key, Gone: true} }

func deed(l ...api.Change) []api.Change { return l }

func deeds(l ...[]api.Change) [][]api.Change { return l }

// rowsOf so many keys, each of them set.
func rowsOf(n int) []api.Change {
	var l []api.Change
	for i := range n {
		l = append(l, set("t/r"+strconv.Itoa(i), "v"))
	}
	return l
}

func newDisk(t *testing.T, n int) *disk.Disk {
	t.Helper()
	d, err := disk.New(n)
	if err != nil {
		t.Fatal(err)
	}
	return d
}

// sector as the document has it.
func sector(kind string, number uint32, data string) string {
	return kind + four(number) + string([]byte{byte(len(data))}) + data
}

func four(n uint32) string {
	return string([]byte{byte(n), byte(n >> 8), byte(n >> 16), byte(n >> 24)})
}

func o(number uint32, key, val string) string {
	return sector("o", number, "\x00"+string([]byte{byte(len(key))})+key+val)
}

func c(number, count uint32) string { return sector("c", number, four(count)) }

// lay sectors from one on, for good.
func lay(t *testing.T, d *disk.Disk, from int, sectors ...string) {
	t.Helper()
	for i, s := range sectors {
		if err := d.Write(from+i, s); err != nil {
			t.Fatal(err)
		}
	}
	if err := d.Flush(); err != nil {
		t.Fatal(err)
	}
}

// all sectors of a disk.
func all(t *testing.T, d *disk.Disk) []string {
	t.Helper()
	var l []string
	for at := range d.Sectors() {
		s, err := d.Read(at)
		if err != nil {
			t.Fatal(err)
		}
		l = append(l, s)
	}
	return l
}

func whole(s string) string { return s + strings.Repeat("\x00", 96-len(s)) }

func sameDeeds(a, b [][]api.Change) bool { return slices.EqualFunc(a, b, slices.Equal) }

// opens: a log with these deeds, whose sectors are as many as they have.
func opens(t *testing.T, d *disk.Disk, from, many, first int, want [][]api.Change) *log.Log {
	t.Helper()
	l, got, err := log.Open(d, from, many, first)
	if l == nil || err != nil || !sameDeeds(got, want) {
		t.Fatalf("H1: Open(.., %d, %d, %d) = .., %v, %v, not %v", from, many, first, got, err, want)
	}
	room := many
	for _, x := range want {
		room -= len(x) + 1
	}
	hasRoom(t, l, room)
	if l.Next() != first+many {
		t.Errorf("H1: Next() = %d, not %d", l.Next(), first+many)
	}
	return l
}

func hasRoom(t *testing.T, l *log.Log, want int) {
	t.Helper()
	if got := l.Room(); got != want {
		t.Errorf("H1: Room() = %d, not %d", got, want)
	}
}

func adds(t *testing.T, l *log.Log, x []api.Change) {
	t.Helper()
	room := l.Room()
	if err := l.Add(x); err != nil {
		t.Fatalf("H2: Add(%v) = %v", x, err)
	}
	hasRoom(t, l, room-len(x)-1)
}

func TestOpenOutOfBounds(t *testing.T) {
	d := newDisk(t, 30)
	for _, x := range []struct{ from, many, first int }{
		{-1, 5, 1}, {math.MinInt, 5, 1}, {0, 0, 1}, {0, -1, 1}, {0, math.MinInt, 1},
		{0, 5, 0}, {0, 5, -1}, {0, 5, math.MinInt},
		{0, 31, 1}, {1, 30, 1}, {29, 2, 1}, {30, 1, 1}, {31, 1, 1}, {math.MaxInt, 1, 1},
		{1, math.MaxInt, 1}, {math.MaxInt, math.MaxInt, math.MaxInt}, {30, math.MinInt, 1}, {math.MinInt, math.MaxInt, 1},
	} {
		l, got, err := log.Open(d, x.from, x.many, x.first)
		if l != nil || len(got) != 0 || err != api.ErrBound {
			t.Errorf("H1, Z1: Open(.., %d, %d, %d) = %v, %v, %v", x.from, x.many, x.first, l, got, err)
		}
	}
	opens(t, d, 0, 30, 1, nil)
	opens(t, d, 29, 1, 1, nil)
	opens(t, d, 3, 5, 1<<40, nil)
	if _, _, err := log.Open(d, 0, 30, math.MaxInt); err != nil {
		t.Errorf("H1: %v", err)
	}
}

func TestOpenOfADiskThatIsDown(t *testing.T) {
	d := newDisk(t, 30)
	d.Arm(0)
	_ = d.Flush()
	if l, got, err := log.Open(d, 0, 30, 1); l != nil || len(got) != 0 || err != api.ErrDown {
		t.Errorf("H1, Z1: Open = %v, %v, %v, not %v", l, got, err, api.ErrDown)
	}
	if _, _, err := log.Open(d, 0, 31, 1); err != api.ErrBound {
		t.Errorf("Z3: Open = %v, not %v, which is named first", err, api.ErrBound)
	}
}

func TestOpenIsNoStep(t *testing.T) {
	d := newDisk(t, 30)
	d.Arm(0)
	opens(t, d, 0, 30, 1, nil)
	if d.Down() {
		t.Error("H1: the disk fell while a log was opened")
	}
}

func TestBytesOfADeed(t *testing.T) {
	d := newDisk(t, 12)
	l := opens(t, d, 2, 9, 0x01020304, nil)
	adds(t, l, deed(set("t/a", "hay"), gone("m/work/000007"), set("q/q", "")))
	adds(t, l, nil)
	adds(t, l, deed(set("t/b", strings.Repeat("z", 40))))
	want := []string{"", "",
		"o\x04\x03\x02\x01\x08\x00\x03t/ahay",
		"o\x05\x03\x02\x01\x0f\x01\x0dm/work/000007",
		"o\x06\x03\x02\x01\x05\x00\x03q/q",
		"c\x07\x03\x02\x01\x04\x03\x00\x00\x00",
		"c\x08\x03\x02\x01\x04\x00\x00\x00\x00",
		"o\x09\x03\x02\x01\x2d\x00\x03t/b" + strings.Repeat("z", 40),
		"c\x0a\x03\x02\x01\x04\x01\x00\x00\x00",
		"", "", ""}
	for at, s := range all(t, d) {
		if s != whole(want[at]) {
			t.Errorf("H1, H2: the sector %d is %q, not %q", at, s, want[at])
		}
	}
}

func TestOpenReadsDeeds(t *testing.T) {
	d := newDisk(t, 20)
	lay(t, d, 4, o(7, "t/b", "1"), o(8, "t/a", "2"), c(9, 2), c(10, 0), o(11, "t/a", ""), c(12, 1))
	opens(t, d, 4, 16, 7, deeds(deed(set("t/b", "1"), set("t/a", "2")), nil, deed(set("t/a", ""))))
	opens(t, d, 4, 6, 7, deeds(deed(set("t/b", "1"), set("t/a", "2")), nil, deed(set("t/a", ""))))
	opens(t, d, 4, 5, 7, deeds(deed(set("t/b", "1"), set("t/a", "2")), nil))
	opens(t, d, 4, 2, 7, nil)
	opens(t, d, 4, 16, 8, nil)
	opens(t, d, 3, 16, 7, nil)
	opens(t, d, 3, 16, 6, nil) // its first sector isn't written
	opens(t, d, 7, 13, 10, deeds(nil, deed(set("t/a", ""))))
	opens(t, d, 5, 15, 8, nil) // one change, and the count is two
}

func TestOpenReadsAlsoGreatDeeds(t *testing.T) {
	d := newDisk(t, 30)
	var l []string
	for i := range 20 {
		l = append(l, o(uint32(1+i), "t/a", strconv.Itoa(i)))
	}
	lay(t, d, 0, append(l, c(21, 20))...)
	_, got, err := log.Open(d, 0, 30, 1)
	if err != nil || len(got) != 1 || len(got[0]) != 20 {
		t.Errorf("H1: Open = .., %v, %v", got, err)
	}
}

func TestWhatStandsBehindTheLastIsNoDeed(t *testing.T) {
	first := deed(set("t/a", "1"))
	for name, behind := range map[string][]string{
		"another first byte":   {sector("x", 3, "")},
		"a great letter":       {sector("C", 3, four(0))},
		"noughts":              {""},
		"another number":       {c(4, 0)},
		"the number backwards": {"c" + "\x00\x00\x00\x03" + "\x04" + four(0)},
		"too many bytes":       {"c" + four(3) + "\x5b" + four(0)},
		"255 bytes":            {"o" + four(3) + "\xff" + "\x00\x03t/a"},
		"no change":            {sector("o", 3, "\x00\x03t/A"), c(4, 1)},
		"no change, no count":  {sector("o", 3, "\x00\x03t/A"), c(4, 0)},
		"no change ahead":      {sector("o", 3, "\x02\x03t/a"), o(4, "t/a", "x"), c(5, 1)},
		"no bytes":             {sector("o", 3, ""), c(4, 1)},
		"a change too many":    {sector("o", 3, "\x01\x03t/ax"), c(4, 1)},
		"ninety bytes":         {sector("o", 3, "\x00\x03t/a"+strings.Repeat("z", 85)), c(4, 1)},
		"a greater count":      {o(3, "t/b", "x"), c(4, 2)},
		"a lesser count":       {o(3, "t/b", "x"), o(4, "t/c", "x"), c(5, 1)},
		"a count of noughts":   {o(3, "t/b", "x"), c(4, 0)},
		"a count without any":  {c(3, 1)},
		"a count beyond":       {o(3, "t/b", "x"), sector("c", 4, "\x01\x00\x00\x01")},
		"a short count":        {o(3, "t/b", "x"), sector("c", 4, "\x01")},
		"no count":             {sector("c", 3, "")},
		"a long count":         {o(3, "t/b", "x"), sector("c", 4, four(1)+"\x00")},
		"an end too far":       {o(3, "t/b", "x"), "", c(5, 1)},
	} {
		d := newDisk(t, 12)
		// Behind what is wrong stands a deed, which isn't reached.
		lay(t, d, 0, append([]string{o(1, "t/a", "1"), c(2, 1)}, append(behind, c(uint32(3+len(behind)), 0))...)...)
		l, got, err := log.Open(d, 0, 12, 1)
		if err != nil || !sameDeeds(got, deeds(first)) || l.Room() != 10 {
			t.Errorf("H1: %s: Open = .., %v, %v, and %d sectors are behind them", name, got, err, l.Room())
		}
	}
}

func TestAnythingMayStandBehindTheBytes(t *testing.T) {
	d := newDisk(t, 5)
	lay(t, d, 0, o(1, "t/a", "1")+strings.Repeat("\xff", 84), c(2, 1)+"anything", c(3, 0)+four(9))
	opens(t, d, 0, 5, 1, deeds(deed(set("t/a", "1")), nil))
}

func TestNumbersModulo(t *testing.T) {
	x := deed(set("t/a", "1"))
	for _, first := range []int{1<<32 - 1, 1 << 32, 1<<32 + 1, 1<<40 - 1, math.MaxInt - 1, math.MaxInt} {
		d := newDisk(t, 10)
		l, _, err := log.Open(d, 0, 10, first)
		if err != nil {
			t.Fatal(err)
		}
		adds(t, l, x)
		adds(t, l, x)
		for i, s := range []string{o(uint32(first), "t/a", "1"), c(uint32(first)+1, 1), o(uint32(first)+2, "t/a", "1"), c(uint32(first)+3, 1)} {
			if got, _ := d.Read(i); got != whole(s) {
				t.Errorf("H1: the sector %d is %q, not %q", i, got, s)
			}
		}
		if _, got, err := log.Open(d, 0, 10, first); err != nil || !sameDeeds(got, deeds(x, x)) {
			t.Errorf("H1: Open(.., %d) = .., %v, %v", first, got, err)
		}
		if other := first%(1<<32) + 1<<32; other > 0 {
			opens(t, d, 0, 10, other, deeds(x, x))
		}
	}
}

func TestAddAndOpenAgain(t *testing.T) {
	d := newDisk(t, 30)
	l := opens(t, d, 2, 24, 5, nil)
	want := deeds(deed(set("t/b", "1"), set("t/a", "2"), gone("t/b"), set("t/b", "")), nil, rowsOf(12), deed(gone("q/q")))
	for i, x := range want {
		adds(t, l, x)
		d.Restart(0) // for good
		opens(t, d, 2, 24, 5, want[:i+1])
	}
	l = opens(t, d, 2, 24, 5, want)
	adds(t, l, nil)
	hasRoom(t, l, 2)
	opens(t, d, 2, 24, 5, append(want, nil))
	if l.Next() != 29 {
		t.Errorf("H1: Next() = %d, not 29", l.Next())
	}
}

func TestAddWrong(t *testing.T) {
	long, bad := strings.Repeat("z", 41), set("t/A", "x")
	for _, x := range []struct {
		many int
		l    []api.Change
		want api.Errno
	}{
		{20, rowsOf(13), api.ErrMany},
		{20, rowsOf(100), api.ErrMany},
		{5, rowsOf(13), api.ErrMany},
		{20, append(rowsOf(12), bad), api.ErrMany},
		{14, rowsOf(12), api.ErrFull},
		{5, rowsOf(3), api.ErrFull},
		{4, rowsOf(2), api.ErrFull},
		{3, rowsOf(1), api.ErrFull},
		{2, nil, api.ErrFull},
		{5, append(rowsOf(2), bad), api.ErrFull},
		{20, deed(bad), api.ErrShape},
		{20, deed(set("t/a", long)), api.ErrBound},
		{20, deed(api.Change{Key: "t/a", Val: "x", Gone: true}), api.ErrShape},
		{20, append(rowsOf(3), bad, set("t/a", long)), api.ErrShape},
		{20, append(rowsOf(3), set("t/a", long), bad), api.ErrBound},
		{20, append(rowsOf(11), api.Change{}), api.ErrShape},
	} {
		d := newDisk(t, 22)
		l := opens(t, d, 1, x.many, 1, nil)
		adds(t, l, deed(set("t/a", "1")))
		was, room := all(t, d), l.Room()
		if err := l.Add(x.l); err != x.want {
			t.Errorf("H2, Z3: Add(%v) in %d sectors = %v, not %v", x.l, x.many, err, x.want)
		}
		hasRoom(t, l, room)
		if !slices.Equal(all(t, d), was) {
			t.Errorf("Z1: Add(%v) is refused, and something was written", x.l)
		}
	}
}

func TestAddUpToTheLastSector(t *testing.T) {
	for n := range 13 {
		d := newDisk(t, 20)
		lay(t, d, 0, "ahead")
		lay(t, d, 2+n, "behind", "behind")
		l := opens(t, d, 1, n+1, 1, nil)
		adds(t, l, rowsOf(n))
		hasRoom(t, l, 0)
		if err := l.Add(nil); err != api.ErrFull {
			t.Errorf("H2: Add(nil) without room = %v", err)
		}
		d.Restart(0)
		opens(t, d, 1, n+1, 1, deeds(rowsOf(n)))
		for _, at := range []int{0, 2 + n, 3 + n} {
			if s, _ := d.Read(at); s != whole("ahead") && s != whole("behind") {
				t.Errorf("H1: the sector %d is none of the log's, and was written", at)
			}
		}
	}
}

func TestWhatStoodBehindIsNoDeed(t *testing.T) {
	d := newDisk(t, 10)
	lay(t, d, 0, "", c(2, 0), o(3, "t/x", "x"), c(4, 1), c(5, 0), c(6, 0), c(7, 0))
	l := opens(t, d, 0, 10, 1, nil)
	adds(t, l, nil)
	opens(t, d, 0, 10, 1, deeds(nil))
	adds(t, l, nil)
	opens(t, d, 0, 10, 1, deeds(nil, nil))
	l = opens(t, d, 0, 10, 1, deeds(nil, nil))
	adds(t, l, deed(set("t/a", "1"), set("t/b", "2")))
	d.Restart(0)
	opens(t, d, 0, 10, 1, deeds(nil, nil, deed(set("t/a", "1"), set("t/b", "2"))))
}

func TestAddOnADiskThatIsDown(t *testing.T) {
	d := newDisk(t, 20)
	l := opens(t, d, 0, 20, 1, nil)
	adds(t, l, rowsOf(2))
	d.Arm(0)
	for range 2 {
		if err := l.Add(rowsOf(1)); err != api.ErrDown {
			t.Errorf("H2: Add = %v, not %v", err, api.ErrDown)
		}
		hasRoom(t, l, 17)
	}
	for want, x := range map[api.Errno][]api.Change{api.ErrMany: rowsOf(13), api.ErrShape: deed(gone(""))} {
		if err := l.Add(x); err != want {
			t.Errorf("Z3: Add(%v) = %v, not %v", x, err, want)
		}
	}
	d.Restart(math.MaxUint64)
	opens(t, d, 0, 20, 1, deeds(rowsOf(2)))
	adds(t, l, rowsOf(1))
	opens(t, d, 0, 20, 1, deeds(rowsOf(2), rowsOf(1)))
}

func TestListsAreNotKept(t *testing.T) {
	d := newDisk(t, 20)
	l := opens(t, d, 0, 20, 1, nil)
	x := deed(set("t/a", "1"), gone("t/b"), set("t/c", "behind"))
	adds(t, l, x[:2])
	if !slices.Equal(x, deed(set("t/a", "1"), gone("t/b"), set("t/c", "behind"))) {
		t.Errorf("Z2: a list was written into: %v", x)
	}
	for i := range x {
		x[i] = set("t/over", "over")
	}
	adds(t, l, x[:1])
	opens(t, d, 0, 20, 1, deeds(deed(set("t/a", "1"), gone("t/b")), deed(set("t/over", "over"))))
}

func TestDeedsAreFreshMemory(t *testing.T) {
	d := newDisk(t, 20)
	l := opens(t, d, 0, 20, 1, nil)
	want := deeds(rowsOf(2), rowsOf(3), nil, rowsOf(1))
	for _, x := range want {
		adds(t, l, x)
	}
	_, one, _ := log.Open(d, 0, 20, 1)
	_, two, _ := log.Open(d, 0, 20, 1)
	for i := range one {
		over := one[i][:cap(one[i])]
		for k := range over {
			over[k] = set("t/over", "over")
		}
		if !sameDeeds(one[i+1:], want[i+1:]) {
			t.Fatalf("Z2: two deeds share memory: %v", one)
		}
	}
	if !sameDeeds(two, want) {
		t.Errorf("Z2: two answers share memory: %v", two)
	}
}

func TestFresh(t *testing.T) {
	for _, s := range []string{"", c(1, 0), c(2, 0), c(3, 0), o(1, "t/a", "x"), o(2, "t/a", "x"), "c\x01", "x" + four(1), strings.Repeat("\xff", 96), c(0, 0)} {
		d := newDisk(t, 9)
		lay(t, d, 3, s, c(2, 0), c(3, 0), c(4, 0))
		lay(t, d, 4, c(3, 0))
		first, err := log.Fresh(d, 3)
		if err != nil || first < 1 || first > 2 {
			t.Fatalf("Fresh = %d, %v", first, err)
		}
		opens(t, d, 3, 6, first, nil)
	}
	d := newDisk(t, 9)
	for _, at := range []int{-1, 9, math.MinInt, math.MaxInt} {
		if n, err := log.Fresh(d, at); n != 0 || err != api.ErrBound {
			t.Errorf("Fresh(.., %d) = %d, %v", at, n, err)
		}
	}
	d.Arm(0)
	_ = d.Flush()
	if n, err := log.Fresh(d, 0); n != 0 || err != api.ErrDown {
		t.Errorf("Fresh = %d, %v, not %v", n, err, api.ErrDown)
	}
}

// die: numbers that look drawn, the same each time.
type die uint64

func (d *die) n(most int) int {
	*d = *d*6364136223846793005 + 1442695040888963407
	return int(uint64(*d>>33) % uint64(most))
}

// The log of the tests of falls.
const (
	fallFrom  = 1
	fallMany  = 8
	fallFirst = 3
)

// groundOf a log: sectors that were written once, most of them so that they go together with others.
func groundOf(x *die) []string {
	var l []string
	for i := range fallMany {
		number := uint32(fallFirst + i)
		switch x.n(8) {
		case 0:
			l = append(l, "")
		case 1:
			l = append(l, c(number+uint32(x.n(2)), uint32(x.n(4))))
		case 2, 3, 4:
			l = append(l, c(number, uint32(x.n(4))))
		default:
			l = append(l, o(number, "t/old", strconv.Itoa(i)))
		}
	}
	return l
}

// fallenDisk: over this ground deeds are added, and at that step it falls, and that is kept.
// It tells which were added, and the one that was being added, if it fell.
func fallenDisk(t *testing.T, ground []string, l [][]api.Change, step int, keep uint64) (d *disk.Disk, added [][]api.Change, fell []api.Change, did bool) {
	t.Helper()
	d = newDisk(t, fallFrom+fallMany)
	lay(t, d, fallFrom, ground...)
	w, added, err := log.Open(d, fallFrom, fallMany, fallFirst)
	if err != nil {
		t.Fatal(err)
	}
	d.Arm(step)
	for _, x := range l {
		if err := w.Add(x); err == api.ErrDown {
			fell, did = x, true
			break
		} else if err == nil {
			added = append(added, x)
		}
	}
	d.Restart(keep)
	return d, added, fell, did
}

// checkFall: behind a fall all that was added is there, and the one that was being added whole, or not at all; and it goes on.
// Is it there?
func checkFall(t *testing.T, d *disk.Disk, added [][]api.Change, fell []api.Change) bool {
	t.Helper()
	w, got, err := log.Open(d, fallFrom, fallMany, fallFirst)
	if err != nil {
		t.Fatal(err)
	}
	with := append(slices.Clone(added), fell)
	if !sameDeeds(got, added) && !sameDeeds(got, with) {
		t.Fatalf("H2, W5: behind a fall are %v, neither %v nor %v", got, added, with)
	}
	more := deed(set("t/more", "m"))
	if w.Room() < 2 {
		more = nil
	}
	if w.Room() > 0 {
		adds(t, w, more)
		d.Restart(0)
		opens(t, d, fallFrom, fallMany, fallFirst, append(slices.Clone(got), more))
	}
	return sameDeeds(got, with)
}

func TestFalls(t *testing.T) {
	x := die(11)
	there, falls := 0, 0
	for range 150 {
		ground := groundOf(&x)
		var l [][]api.Change
		for i := range 1 + x.n(3) {
			l = append(l, deeds(nil, deed(set("t/a", strconv.Itoa(i))), deed(set("t/a", "x"), gone("t/b")), rowsOf(3))[x.n(4)])
		}
		for step, did := 0, true; did; step++ {
			did = false
			for keep := range uint64(1 << 5) { // never are more writes not kept
				d, added, fell, down := fallenDisk(t, ground, l, step, keep)
				if !down {
					break
				}
				did = true
				falls++
				if checkFall(t, d, added, fell) {
					there++
				}
			}
		}
	}
	if there == 0 || there == falls {
		t.Errorf("of %d falls %d left the deed there", falls, there)
	}
}

func newGround(t *testing.T, ground []string) *disk.Disk {
	t.Helper()
	d := newDisk(t, fallFrom+fallMany)
	lay(t, d, fallFrom, ground...)
	return d
}

// TestFallAgain: a log that fell, was opened and falls again has what was added ahead, and nothing of what was not.
func TestFallAgain(t *testing.T) {
	x := die(12)
	for range 400 {
		d := newGround(t, groundOf(&x))
		w, want, err := log.Open(d, fallFrom, fallMany, fallFirst)
		if err != nil {
			t.Fatal(err)
		}
		for range 12 {
			next := deed(set("t/a", strconv.Itoa(x.n(99))), gone("t/b"))[:x.n(3)]
			d.Arm(x.n(12))
			err := w.Add(next)
			if err == nil {
				want = append(slices.Clone(want), next)
			}
			d.Restart(uint64(x.n(1 << 6)))
			var got [][]api.Change
			if w, got, _ = log.Open(d, fallFrom, fallMany, fallFirst); sameDeeds(got, want) {
				continue
			}
			if with := append(slices.Clone(want), next); err != api.ErrDown || !sameDeeds(got, with) {
				t.Fatalf("H2, W5: behind a fall are %v, neither %v nor with %v", got, want, next)
			}
			want = got
		}
	}
}
