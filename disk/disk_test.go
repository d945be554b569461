package disk_test

import (
	"math"
	"runtime"
	"slices"
	"strconv"
	"strings"
	"testing"

	"haywain/api"
	"haywain/disk"
)

func noughts() string { return strings.Repeat("\x00", 96) }

// whole sector that begins with a text.
func whole(s string) string { return s + noughts()[len(s):] }

func newDisk(t *testing.T, n int) *disk.Disk {
	t.Helper()
	d, err := disk.New(n)
	if d == nil || err != nil {
		t.Fatalf("G1: New(%d) = %v, %v", n, d, err)
	}
	return d
}

func reads(t *testing.T, d *disk.Disk, at int, want string) {
	t.Helper()
	if got, err := d.Read(at); got != whole(want) || err != nil {
		t.Errorf("G1: Read(%d) = %q, %v, not %q", at, got, err, want)
	}
}

func readsNot(t *testing.T, d *disk.Disk, at int, want api.Errno) {
	t.Helper()
	if got, err := d.Read(at); got != "" || err != want {
		t.Errorf("G1, Z1: Read(%d) = %q, %v, not %v", at, got, err, want)
	}
}

func writes(t *testing.T, d *disk.Disk, at int, data string) {
	t.Helper()
	if err := d.Write(at, data); err != nil {
		t.Errorf("G1: Write(%d, %q) = %v", at, data, err)
	}
}

func writesNot(t *testing.T, d *disk.Disk, at int, data string, want api.Errno) {
	t.Helper()
	if err := d.Write(at, data); err != want {
		t.Errorf("G1, G2: Write(%d, %q) = %v, not %v", at, data, err, want)
	}
}

func flushes(t *testing.T, d *disk.Disk) {
	t.Helper()
	if err := d.Flush(); err != nil {
		t.Errorf("G2: Flush() = %v", err)
	}
}

func flushesNot(t *testing.T, d *disk.Disk) {
	t.Helper()
	if err := d.Flush(); err != api.ErrDown {
		t.Errorf("G2: Flush() = %v, not %v", err, api.ErrDown)
	}
}

func isDown(t *testing.T, d *disk.Disk, want bool) {
	t.Helper()
	if got := d.Down(); got != want {
		t.Errorf("G2: Down() = %v", got)
	}
}

// far: numbers that no disk has a sector of.
func far(n int) []int {
	return []int{math.MinInt, -1 << 40, -2, -1, n, n + 1, 200, 1 << 32, math.MaxInt}
}

func TestNewDisk(t *testing.T) {
	for _, n := range []int{1, 2, 53, 199, 200} {
		d := newDisk(t, n)
		if got := d.Sectors(); got != n {
			t.Errorf("G1: Sectors() = %d, not %d", got, n)
		}
		for at := range n {
			reads(t, d, at, "")
		}
		isDown(t, d, false)
	}
	for _, n := range []int{math.MinInt, -1, 0, 201, 1 << 40, math.MaxInt} {
		if d, err := disk.New(n); d != nil || err != api.ErrBound {
			t.Errorf("G1, Z1: New(%d) = %v, %v, not %v", n, d, err, api.ErrBound)
		}
	}
}

func TestNewDiskIsNotArmed(t *testing.T) {
	d := newDisk(t, 1)
	for range 1000 {
		writes(t, d, 0, "x")
		flushes(t, d)
	}
	isDown(t, d, false)
}

func TestWriteAndRead(t *testing.T) {
	d := newDisk(t, 3)
	for _, s := range []string{"hay", strings.Repeat("z", 96), "", "\xff\x00\xfe", strings.Repeat("y", 95), "x"} {
		writes(t, d, 1, s)
		reads(t, d, 0, "")
		reads(t, d, 1, s)
		reads(t, d, 2, "")
	}
	writes(t, d, 0, "first")
	writes(t, d, 2, "last")
	reads(t, d, 0, "first")
	reads(t, d, 1, "x")
	reads(t, d, 2, "last")
	flushes(t, d)
	reads(t, d, 0, "first")
	if n := d.Sectors(); n != 3 {
		t.Errorf("G1: Sectors() = %d, not 3", n)
	}
}

func TestOutOfBounds(t *testing.T) {
	for _, n := range []int{1, 3, 200} {
		d := newDisk(t, n)
		writes(t, d, 0, "hay")
		for _, at := range far(n) {
			readsNot(t, d, at, api.ErrBound)
			writesNot(t, d, at, "x", api.ErrBound)
			writesNot(t, d, at, strings.Repeat("x", 97), api.ErrBound)
		}
		writesNot(t, d, 0, strings.Repeat("x", 97), api.ErrBound)
		writesNot(t, d, 0, strings.Repeat("x", 1<<20), api.ErrBound)
		reads(t, d, 0, "hay")
	}
}

func TestWhichErrorIsToldFirst(t *testing.T) {
	d := newDisk(t, 2)
	d.Arm(0)
	flushesNot(t, d)
	for _, at := range far(2) {
		readsNot(t, d, at, api.ErrDown)
		writesNot(t, d, at, "x", api.ErrBound)
	}
	readsNot(t, d, 0, api.ErrDown)
	writesNot(t, d, 0, strings.Repeat("x", 97), api.ErrBound)
	writesNot(t, d, 0, "x", api.ErrDown)
}

func TestSteps(t *testing.T) {
	for n := range 12 {
		d := newDisk(t, 2)
		d.Arm(n)
		for i := range n {
			if i%3 == 2 {
				flushes(t, d)
			} else {
				writes(t, d, 0, strconv.Itoa(i))
			}
			isDown(t, d, false)
		}
		if n%2 == 0 {
			writesNot(t, d, 1, "x", api.ErrDown)
		} else {
			flushesNot(t, d)
		}
		for range 3 {
			isDown(t, d, true)
			writesNot(t, d, 0, "x", api.ErrDown)
			flushesNot(t, d)
			readsNot(t, d, 0, api.ErrDown)
		}
	}
}

func TestWhatIsNoStep(t *testing.T) {
	d := newDisk(t, 2)
	d.Arm(1)
	for range 9 {
		reads(t, d, 0, "")
		readsNot(t, d, 2, api.ErrBound)
		writesNot(t, d, 2, "x", api.ErrBound)
		writesNot(t, d, 0, strings.Repeat("x", 97), api.ErrBound)
		isDown(t, d, false)
	}
	writes(t, d, 0, "x")
	// No step is left, but it falls only at one.
	isDown(t, d, false)
	reads(t, d, 0, "x")
	writesNot(t, d, 2, "x", api.ErrBound)
	isDown(t, d, false)
	flushesNot(t, d)
	isDown(t, d, true)
}

func TestArmAnew(t *testing.T) {
	d := newDisk(t, 1)
	for _, n := range []int{-1, -7, math.MinInt, math.MaxInt} {
		d.Arm(0)
		d.Arm(n)
		for range 100 {
			writes(t, d, 0, "x")
			flushes(t, d)
		}
	}
	d.Arm(5)
	flushes(t, d)
	d.Arm(2)
	flushes(t, d)
	flushes(t, d)
	flushesNot(t, d)
}

func TestArmRaisesNobody(t *testing.T) {
	d := newDisk(t, 1)
	d.Arm(0)
	flushesNot(t, d)
	for _, n := range []int{-1, 0, 1, 5} {
		d.Arm(n)
		isDown(t, d, true)
		flushesNot(t, d)
		readsNot(t, d, 0, api.ErrDown)
	}
	d.Restart(0)
	isDown(t, d, false)
	for range 20 {
		flushes(t, d) // nor is it armed by what was said while it was down
	}
}

func TestRestartLosesAndKeeps(t *testing.T) {
	// Four writes of two sectors behind one that is kept: which are there behind each choice of bits?
	for keep := range uint64(16) {
		d := newDisk(t, 3)
		writes(t, d, 0, "kept")
		flushes(t, d)
		want := []string{"kept", "", ""}
		for i, at := range []int{0, 1, 0, 1} {
			s := "w" + strconv.Itoa(i)
			writes(t, d, at, s)
			reads(t, d, at, s)
			if keep>>i&1 == 1 {
				want[at] = s
			}
		}
		d.Restart(keep)
		for at, s := range want {
			reads(t, d, at, s)
		}
		d.Restart(math.MaxUint64)
		for at, s := range want {
			reads(t, d, at, s) // what was lost stays lost, what is kept stays kept
		}
		d.Restart(0)
		for at, s := range want {
			reads(t, d, at, s)
		}
	}
}

func TestFlushKeepsAll(t *testing.T) {
	d := newDisk(t, 3)
	for i := range 3 {
		writes(t, d, i, strconv.Itoa(i))
	}
	writes(t, d, 0, "again")
	flushes(t, d)
	d.Restart(0)
	reads(t, d, 0, "again")
	reads(t, d, 1, "1")
	reads(t, d, 2, "2")
}

func TestWhatFallsIsNotWritten(t *testing.T) {
	d := newDisk(t, 2)
	writes(t, d, 0, "a")
	d.Arm(1)
	writes(t, d, 0, "b")
	writesNot(t, d, 0, "c", api.ErrDown)
	writesNot(t, d, 1, "d", api.ErrDown)
	d.Restart(math.MaxUint64)
	reads(t, d, 0, "b")
	reads(t, d, 1, "")

	writes(t, d, 0, "e")
	d.Arm(0)
	flushesNot(t, d)
	flushesNot(t, d)
	d.Restart(0)
	reads(t, d, 0, "b") // a flush that fell keeps nothing
}

func TestNumbersOfWrites(t *testing.T) {
	d := newDisk(t, 200)
	for at := range 200 {
		writesNot(t, d, 200, "x", api.ErrBound) // what isn't written has no number
		writes(t, d, at, "x"+strconv.Itoa(at))
	}
	keep := uint64(1)<<63 | 1<<40 | 1<<2 | 1
	d.Restart(keep)
	for at := range 200 {
		want := ""
		if slices.Contains([]int{0, 2, 40, 63}, at%64) {
			want = "x" + strconv.Itoa(at)
		}
		reads(t, d, at, want)
	}
	// They are counted anew behind a Restart, and behind a Flush.
	writes(t, d, 0, "r0")
	writes(t, d, 1, "r1")
	d.Restart(1)
	reads(t, d, 0, "r0")
	reads(t, d, 1, "")
	writes(t, d, 0, "lost, if it were counted")
	flushes(t, d)
	writes(t, d, 0, "f0")
	writes(t, d, 1, "f1")
	d.Restart(2)
	reads(t, d, 0, "lost, if it were counted")
	reads(t, d, 1, "f1")
}

func TestOneSectorManyTimes(t *testing.T) {
	for _, keep := range []uint64{0, 1, 2, 3, 1 << 35, 1 << 36, 1 << 63, 5 << 30, math.MaxUint64} {
		d := newDisk(t, 1)
		want := ""
		for i := range 100 { // the last one's bit is 35
			writes(t, d, 0, strconv.Itoa(i))
			if keep>>(i%64)&1 == 1 {
				want = strconv.Itoa(i)
			}
		}
		d.Restart(keep)
		reads(t, d, 0, want)
	}
}

func TestRestartOfOneThatIsUp(t *testing.T) {
	d := newDisk(t, 1)
	writes(t, d, 0, "a")
	d.Arm(0)
	d.Restart(0)
	reads(t, d, 0, "")
	isDown(t, d, false)
	writes(t, d, 0, "b")
	flushes(t, d)
}

func TestDisksAreApart(t *testing.T) {
	d, other := newDisk(t, 2), newDisk(t, 2)
	writes(t, d, 0, "mine")
	d.Arm(0)
	flushesNot(t, d)
	isDown(t, other, false)
	reads(t, other, 0, "")
	writes(t, other, 0, "other's")
	flushes(t, other)
	d.Restart(1)
	reads(t, d, 0, "mine")
	reads(t, other, 0, "other's")
}

func TestWhatWasReadStays(t *testing.T) {
	d := newDisk(t, 1)
	writes(t, d, 0, "hay")
	was, _ := d.Read(0)
	writes(t, d, 0, "oats")
	if was != whole("hay") {
		t.Errorf("Z2: what was read is now %q", was)
	}
}

// TestNoMoreIsKeptThanIsNeeded: however often a sector is written, only the last write of a bit is asked for.
func TestNoMoreIsKeptThanIsNeeded(t *testing.T) {
	d := newDisk(t, 1)
	before := heap()
	for range 200000 {
		writes(t, d, 0, "x")
	}
	if more := heap() - before; more > 5<<20 {
		t.Errorf("rule 8: %d bytes are kept of one sector", more)
	}
	runtime.KeepAlive(d)
}

func heap() int {
	runtime.GC()
	var m runtime.MemStats
	runtime.ReadMemStats(&m)
	return int(m.HeapAlloc)
}

// die: numbers that look drawn, the same each time.
type die uint64

func (d *die) n(most int) int {
	*d = *d*6364136223846793005 + 1442695040888963407
	return int(uint64(*d>>33) % uint64(most))
}

// model of a disk: all sectors as they are kept, and every write since.
type model struct {
	kept  []string
	since []struct {
		at   int
		data string
	}
	left int
	down bool
}

func newModel(n int) *model {
	return &model{kept: slices.Repeat([]string{noughts()}, n), left: -1}
}

func (m *model) step() error {
	if m.down || m.left == 0 {
		m.down = true
		return api.ErrDown
	}
	if m.left > 0 {
		m.left--
	}
	return nil
}

func (m *model) sectors(keep func(i int) bool) []string {
	l := slices.Clone(m.kept)
	for i, w := range m.since {
		if keep(i) {
			l[w.at] = w.data
		}
	}
	return l
}

func (m *model) write(at int, data string) error {
	if at < 0 || at >= len(m.kept) || len(data) > 96 {
		return api.ErrBound
	}
	if err := m.step(); err != nil {
		return err
	}
	m.since = append(m.since, struct {
		at   int
		data string
	}{at, whole(data)})
	return nil
}

func (m *model) flush() error {
	if err := m.step(); err != nil {
		return err
	}
	m.kept, m.since = m.sectors(func(int) bool { return true }), nil
	return nil
}

func (m *model) restart(keep uint64) {
	m.kept, m.since = m.sectors(func(i int) bool { return keep>>(i%64)&1 == 1 }), nil
	m.down, m.left = false, -1
}

func TestAgainstAModel(t *testing.T) {
	x := die(7)
	for range 300 {
		n := 1 + x.n(4)
		d, m := newDisk(t, n), newModel(n)
		for range 300 {
			switch x.n(30) {
			case 0:
				if got, want := d.Flush(), m.flush(); got != want {
					t.Fatalf("G2: Flush() = %v, not %v", got, want)
				}
			case 1:
				many := x.n(200) - 9
				d.Arm(many)
				m.left = many
			case 2:
				keep := uint64(x.n(1<<31))<<33 ^ uint64(x.n(1<<31))<<11 ^ uint64(x.n(1<<20))
				d.Restart(keep)
				m.restart(keep)
			default:
				at, data := x.n(n+2)-1, strings.Repeat(string(rune('a'+x.n(26))), []int{0, 1, 40, 96, 97}[x.n(5)])
				if got, want := d.Write(at, data), m.write(at, data); got != want {
					t.Fatalf("G1, G2: Write(%d, %q) = %v, not %v", at, data, got, want)
				}
			}
			if d.Down() != m.down {
				t.Fatalf("G2: Down() = %v", d.Down())
			}
			for at, want := range m.sectors(func(int) bool { return true }) {
				var wrong error
				if m.down {
					want, wrong = "", api.ErrDown
				}
				if got, err := d.Read(at); got != want || err != wrong {
					t.Fatalf("G1 to G3: Read(%d) = %q, %v, not %q, %v", at, got, err, want, wrong)
				}
			}
		}
	}
}
