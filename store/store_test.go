package store_test

import (
	"maps"
	"math"
	"slices"
	"strconv"
	"strings"
	"testing"

	"haywain/api"
	"haywain/disk"
	"haywain/log"
	"haywain/row"
	"haywain/store"
)

// logAt: where the document has a store's log.
const logAt = 50

func set(key, val string) api.Change { return api.Change{Key: key, Val: val} }

func gone(key string) api.Change { return api.Change{Key: key, Gone: true} }

func deed(l ...api.Change) []api.Change { return l }

func rows(l ...string) []api.Row {
	var out []api.Row
	for i := 0; i < len(l); i += 2 {
		out = append(out, api.Row{Key: l[i], Val: l[i+1]})
	}
	return out
}

// puts of so many rows, from the i-th on, of the longest keys and values.
func puts(i, n int) []api.Change {
	var l []api.Change
	for k := i; k < i+n; k++ {
		l = append(l, set(row.Message("abcdef", k), strings.Repeat(string(rune('a'+k%26)), 40)))
	}
	return l
}

func newDisk(t *testing.T, n int) *disk.Disk {
	t.Helper()
	d, err := disk.New(n)
	if err != nil {
		t.Fatal(err)
	}
	return d
}

func formats(t *testing.T, d *disk.Disk) {
	t.Helper()
	if err := store.Format(d); err != nil {
		t.Fatalf("I1: Format = %v", err)
	}
}

func opens(t *testing.T, d *disk.Disk) *store.Store {
	t.Helper()
	s, err := store.Open(d)
	if s == nil || err != nil {
		t.Fatalf("I1: Open = %v, %v", s, err)
	}
	return s
}

// newStore on a new disk of so many sectors.
func newStore(t *testing.T, n int) (*disk.Disk, *store.Store) {
	t.Helper()
	d := newDisk(t, n)
	formats(t, d)
	return d, opens(t, d)
}

func commits(t *testing.T, s *store.Store, l ...api.Change) {
	t.Helper()
	if err := s.Commit(l); err != nil {
		t.Fatalf("I2: Commit(%v) = %v", l, err)
	}
}

func checkpoints(t *testing.T, s *store.Store) {
	t.Helper()
	if err := s.Checkpoint(); err != nil {
		t.Fatalf("I3: Checkpoint() = %v", err)
	}
}

func has(t *testing.T, s *store.Store, room int, want []api.Row) {
	t.Helper()
	if got := s.Rows(); !slices.Equal(got, want) {
		t.Fatalf("I1, I2: the rows are %q, not %q", got, want)
	}
	if got := s.Room(); got != room {
		t.Errorf("I1, I2: Room() = %d, not %d", got, room)
	}
}

// all sectors of a disk.
func all(t *testing.T, d *disk.Disk) []string {
	t.Helper()
	var l []string
	for at := range d.Sectors() {
		s, err := d.Read(at)
		if err != nil {
			t.Fatal(err)
		}
		l = append(l, s)
	}
	return l
}

// fill sectors of a disk, for good.
func fill(t *testing.T, d *disk.Disk, from int, l ...string) {
	t.Helper()
	for i, s := range l {
		if err := d.Write(from+i, s); err != nil {
			t.Fatal(err)
		}
	}
	if err := d.Flush(); err != nil {
		t.Fatal(err)
	}
}

// fall, whatever it did.
func fall(d *disk.Disk) {
	d.Arm(0)
	_ = d.Flush()
}

func TestFormat(t *testing.T) {
	for _, n := range []int{54, 55, 100, 200} {
		d, s := newStore(t, n)
		has(t, s, n-50, nil)
		d.Restart(0) // for good
		has(t, opens(t, d), n-50, nil)
	}
	for _, n := range []int{1, 2, 49, 50, 51, 53} {
		d := newDisk(t, n)
		if err := store.Format(d); err != api.ErrFull {
			t.Errorf("I1: Format of %d sectors = %v, not %v", n, err, api.ErrFull)
		}
		if was := all(t, newDisk(t, n)); !slices.Equal(all(t, d), was) {
			t.Errorf("Z1: Format of %d sectors wrote on them", n)
		}
		fall(d)
		if err := store.Format(d); err != api.ErrFull {
			t.Errorf("Z3: Format = %v, not %v, which is named first", err, api.ErrFull)
		}
	}
	d := newDisk(t, 54)
	fall(d)
	if err := store.Format(d); err != api.ErrDown {
		t.Errorf("I1: Format = %v, not %v", err, api.ErrDown)
	}
}

func opensNot(t *testing.T, d *disk.Disk, want api.Errno) {
	t.Helper()
	if s, err := store.Open(d); s != nil || err != want {
		t.Errorf("I1, Z1: Open = %v, %v, not %v", s, err, want)
	}
}

func TestOpenWithoutAStore(t *testing.T) {
	for _, n := range []int{1, 49, 50, 51, 53, 54, 200} {
		d := newDisk(t, n)
		opensNot(t, d, api.ErrText)
		for _, s := range []string{"x", "haywain", strings.Repeat("\xff", 96), strings.Repeat("haywain ", 12), "c\x01\x00\x00\x00\x04\x00\x00\x00\x00"} {
			fill(t, d, 0, slices.Repeat([]string{s}, n)...)
			opensNot(t, d, api.ErrText)
		}
		fall(d)
		opensNot(t, d, api.ErrDown)
	}
	d, _ := newStore(t, 54)
	fall(d)
	opensNot(t, d, api.ErrDown)
}

// TestOpenOfASmallDisk: what a store is made of may stand on a disk on which no store has room.
func TestOpenOfASmallDisk(t *testing.T) {
	d, s := newStore(t, 54)
	commits(t, s, set("t/a", "1"))
	sectors := all(t, d)
	for _, n := range []int{1, 10, 50, 51, 53} {
		small := newDisk(t, n)
		fill(t, small, 0, sectors[:n]...)
		opensNot(t, small, api.ErrText)
	}
}

func TestFormatOverWhateverWas(t *testing.T) {
	deedBy := func(first byte) []string {
		return []string{
			"o" + string([]byte{first}) + "\x00\x00\x00\x06\x00\x03t/xx",
			"c" + string([]byte{first + 1}) + "\x00\x00\x00\x04\x01\x00\x00\x00",
			"c" + string([]byte{first + 2}) + "\x00\x00\x00\x04\x00\x00\x00\x00",
		}
	}
	for first := range byte(20) {
		for _, fillAll := range []bool{false, true} {
			d := newDisk(t, 60)
			if fillAll {
				fill(t, d, 0, slices.Repeat([]string{strings.Repeat("\xff", 96)}, 60)...)
			}
			fill(t, d, logAt, deedBy(first)...)
			formats(t, d)
			d.Restart(0)
			s := opens(t, d)
			has(t, s, 10, nil)
			commits(t, s)
			commits(t, s, set("t/a", "1"))
			checkpoints(t, s)
			has(t, opens(t, d), 10, rows("t/a", "1"))
		}
	}
}

func TestFormatOverAStore(t *testing.T) {
	for again := range 5 {
		d, s := newStore(t, 80)
		for i := range again {
			commits(t, s, puts(i, 12)...)
			if i%2 == 1 {
				checkpoints(t, s)
			}
		}
		formats(t, d)
		d.Restart(0)
		s = opens(t, d)
		has(t, s, 30, nil)
		commits(t, s, set("t/a", "1"))
		has(t, opens(t, d), 28, rows("t/a", "1"))
	}
}

func TestCommitMakesRows(t *testing.T) {
	d, s := newStore(t, 200)
	commits(t, s, set("t/b", "2"), set("q/q", "0 1 "), set("t/a", ""))
	has(t, s, 146, rows("q/q", "0 1 ", "t/a", "", "t/b", "2"))
	// One behind the other: of a key the last one counts, and they needn't rise.
	commits(t, s, set("t/b", "x"), gone("t/b"), set("t/a", "1"), set("t/c", "3"), gone("t/c"), set("t/a", "hay"), gone("t/zz"), gone("t/d"), set("t/d", ""))
	has(t, s, 136, rows("q/q", "0 1 ", "t/a", "hay", "t/d", ""))
	commits(t, s)
	commits(t, s, deed()...)
	has(t, s, 134, rows("q/q", "0 1 ", "t/a", "hay", "t/d", ""))
	commits(t, s, set("m/q/000001", "0 0 "), set("m/q/000000", "0 0 x"), gone("q/q"), gone("t/a"))
	want := rows("m/q/000000", "0 0 x", "m/q/000001", "0 0 ", "t/d", "")
	has(t, s, 129, want)
	d.Restart(0) // for good
	has(t, opens(t, d), 129, want)
	has(t, opens(t, d), 129, want)
}

func TestItsLogIsALog(t *testing.T) {
	d, s := newStore(t, 70)
	want := [][]api.Change{deed(set("t/b", "2"), gone("t/a")), nil, puts(0, 3)}
	for _, l := range want {
		commits(t, s, l...)
	}
	sector, _ := d.Read(logAt)
	if sector[0] != 'o' || sector[5] != 6 || sector[6:12] != "\x00\x03t/b2" {
		t.Fatalf("I1, H1: the log's first sector is %q", sector)
	}
	number := int(sector[1]) | int(sector[2])<<8 | int(sector[3])<<16 | int(sector[4])<<24
	l, got, err := log.Open(d, logAt, 20, number)
	if err != nil || !slices.EqualFunc(got, want, slices.Equal) || l.Room() != s.Room() {
		t.Errorf("I1, H1: the log has %v, %v", got, err)
	}
}

func TestCommitWrong(t *testing.T) {
	long, bad := strings.Repeat("z", 41), set("t/A", "x")
	full := append(puts(0, 12), set("t/a", ""))
	for _, x := range []struct {
		sectors int
		l       []api.Change
		want    api.Errno
	}{
		{200, full, api.ErrMany},
		{54, full, api.ErrMany},
		{200, append(puts(0, 12), bad), api.ErrMany},
		{200, deed(bad), api.ErrShape},
		{200, deed(gone("")), api.ErrShape},
		{200, deed(api.Change{Key: "t/a", Val: "x", Gone: true}), api.ErrShape},
		{200, deed(set("t/a", long)), api.ErrBound},
		{200, deed(set("t/a", ""), set("t/b", long), bad), api.ErrBound},
		{200, deed(set("t/a", ""), bad, set("t/b", long)), api.ErrShape},
		{54, append(puts(0, 4), bad), api.ErrShape},
		{54, append(puts(0, 4), set("t/a", long)), api.ErrBound},
		{54, puts(0, 4), api.ErrFull},
		{54, puts(0, 12), api.ErrFull},
		{62, puts(0, 12), api.ErrFull},
	} {
		d, s := newStore(t, x.sectors)
		commits(t, s, set("t/a", "1"))
		was := all(t, d)
		if err := s.Commit(x.l); err != x.want {
			t.Errorf("I2, Z3: Commit(%v) on %d sectors = %v, not %v", x.l, x.sectors, err, x.want)
		}
		has(t, s, x.sectors-52, rows("t/a", "1"))
		if !slices.Equal(all(t, d), was) {
			t.Errorf("Z1: Commit(%v) is refused, and something was written", x.l)
		}
	}
}

func TestGreatestDeeds(t *testing.T) {
	for sectors, n := range map[int]int{54: 3, 55: 4, 63: 12, 64: 12} {
		d, s := newStore(t, sectors)
		commits(t, s, puts(0, n)...)
		for i := range 5 { // each time but the first few there is no room
			commits(t, s, puts(i, n)...)
		}
		if got := opens(t, d); !slices.Equal(got.Rows(), s.Rows()) || len(s.Rows()) != n+4 {
			t.Errorf("I2: the rows are %q, and then %q", s.Rows(), got.Rows())
		}
	}
}

// fullStore: as many rows as may be there, as long as may be.
func fullStore(t *testing.T) (*disk.Disk, *store.Store) {
	t.Helper()
	d, s := newStore(t, 200)
	for i := range 4 {
		commits(t, s, puts(10*i, 10)...)
	}
	return d, s
}

func TestAsManyRowsAsMayBe(t *testing.T) {
	d, s := fullStore(t)
	want, room := s.Rows(), s.Room()
	if len(want) != 40 || room != 106 {
		t.Fatalf("I2: there are %d rows, and room of %d", len(want), room)
	}
	more := set("t/more", "")
	for _, l := range [][]api.Change{deed(more), deed(more, gone("t/none")), deed(gone(want[0].Key), more, set("t/b", "")), deed(more, set(want[0].Key, "x"))} {
		if err := s.Commit(l); err != api.ErrFull {
			t.Errorf("I2: Commit(%v) = %v, not %v", l, err, api.ErrFull)
		}
		has(t, s, room, want)
	}
	// What is there behind the whole deed counts.
	commits(t, s, more, set("t/b", ""), gone(want[0].Key), gone(want[1].Key))
	commits(t, s, set(want[2].Key, "x"))
	commits(t, s, gone("t/b"), gone("t/more"), set(want[0].Key, want[0].Val), set(want[1].Key, want[1].Val), set(want[2].Key, want[2].Val))
	has(t, opens(t, d), 93, want)
	for range 4 { // both areas have room for all of them
		checkpoints(t, s)
		has(t, s, 150, want)
		d.Restart(0)
		has(t, opens(t, d), 150, want)
	}
}

// TestErrFullIsToldWithoutACheckpoint: there is no room, but the deed may not be: nothing is laid.
func TestErrFullIsToldWithoutACheckpoint(t *testing.T) {
	d, s := newStore(t, 65)
	for i := range 4 {
		commits(t, s, puts(10*i, 10)...)
	}
	has(t, s, 4, s.Rows())
	was := all(t, d)
	if err := s.Commit(append(puts(0, 4), set("t/a", ""))); err != api.ErrFull {
		t.Errorf("I2: Commit = %v, not %v", err, api.ErrFull)
	}
	if has(t, s, 4, s.Rows()); !slices.Equal(all(t, d), was) {
		t.Error("Z1: a commit is refused, and something was written")
	}
}

func TestCheckpoint(t *testing.T) {
	d, s := newStore(t, 60)
	checkpoints(t, s)
	has(t, s, 10, nil)
	commits(t, s, set("t/a", "1"), set("t/b", "2"))
	commits(t, s, gone("t/a"))
	for range 5 {
		checkpoints(t, s)
		has(t, s, 10, rows("t/b", "2"))
		d.Restart(0)
		has(t, opens(t, d), 10, rows("t/b", "2"))
	}
	commits(t, s, set("t/a", "3"))
	has(t, opens(t, d), 8, rows("t/a", "3", "t/b", "2"))
	s = opens(t, d)
	commits(t, s, gone("t/a"), gone("t/b"))
	checkpoints(t, s)
	has(t, opens(t, d), 10, nil)
}

func TestCommitWithoutRoom(t *testing.T) {
	d, s := newStore(t, 56)
	commits(t, s, set("t/a", "1"), set("t/b", "2"))
	has(t, s, 3, rows("t/a", "1", "t/b", "2"))
	commits(t, s, set("t/a", "2"), gone("t/b"))
	has(t, s, 0, rows("t/a", "2")) // it has just room enough
	commits(t, s)
	has(t, s, 5, rows("t/a", "2")) // all was laid ahead of it
	commits(t, s, puts(0, 5)...)
	has(t, s, 0, append(rowsOf(puts(0, 5)), rows("t/a", "2")...))
	d.Restart(0)
	s = opens(t, d)
	has(t, s, 0, append(rowsOf(puts(0, 5)), rows("t/a", "2")...))
	commits(t, s, gone("t/a"))
	has(t, opens(t, d), 4, rowsOf(puts(0, 5)))
}

func rowsOf(l []api.Change) []api.Row {
	var out []api.Row
	for _, c := range l {
		out = append(out, api.Row{Key: c.Key, Val: c.Val})
	}
	return out
}

func TestDiskThatIsDown(t *testing.T) {
	d, s := newStore(t, 56)
	commits(t, s, set("t/a", "1"))
	fall(d)
	for _, err := range []error{s.Commit(nil), s.Commit(deed(set("t/b", ""))), s.Commit(puts(0, 5)), s.Checkpoint()} {
		if err != api.ErrDown {
			t.Errorf("I2, I3: on a disk that is down: %v, not %v", err, api.ErrDown)
		}
	}
	if err := s.Commit(deed(gone("x"))); err != api.ErrShape {
		t.Errorf("Z3: Commit = %v, not %v, which is named first", err, api.ErrShape)
	}
	d.Restart(math.MaxUint64)
	has(t, opens(t, d), 4, rows("t/a", "1"))
}

func TestListsAreNotKept(t *testing.T) {
	d, s := newStore(t, 60)
	l := deed(set("t/b", "1"), set("t/a", "2"), set("t/c", "behind"))
	commits(t, s, l[:2]...)
	if !slices.Equal(l, deed(set("t/b", "1"), set("t/a", "2"), set("t/c", "behind"))) {
		t.Errorf("Z2: a list was written into: %v", l)
	}
	for i := range l {
		l[i] = set("t/over", "over")
	}
	has(t, s, 7, rows("t/a", "2", "t/b", "1"))
	one := s.Rows()
	for i := range one[:cap(one)] {
		one[:cap(one)][i] = api.Row{Key: "t/over", Val: "over"}
	}
	has(t, s, 7, rows("t/a", "2", "t/b", "1"))
	was := s.Rows()
	commits(t, s, gone("t/a"), set("t/b", "new"))
	if !slices.Equal(was, rows("t/a", "2", "t/b", "1")) {
		t.Errorf("Z2: what was told is now %q", was)
	}
	checkpoints(t, s)
	has(t, opens(t, d), 10, rows("t/b", "new"))
}

// die: numbers that look drawn, the same each time.
type die uint64

func (d *die) n(most int) int {
	*d = *d*6364136223846793005 + 1442695040888963407
	return int(uint64(*d>>33) % uint64(most))
}

func (d *die) bits() uint64 {
	return uint64(d.n(1<<31))<<33 ^ uint64(d.n(1<<31))<<16 ^ uint64(d.n(1<<16))
}

// deedOf changes that may be, in any order.
func deedOf(x *die, most int) []api.Change {
	var l []api.Change
	for range x.n(most + 1) {
		key := []string{row.Table("a"), row.Table("b"), row.Table("r" + strconv.Itoa(x.n(60))), row.Queue("q"), row.Message("abcdef", x.n(9))}[x.n(5)]
		if x.n(4) == 0 {
			l = append(l, gone(key))
		} else {
			l = append(l, set(key, strings.Repeat("v", x.n(41))))
		}
	}
	return l
}

// model of rows.
type model map[string]string

func (m model) behind(l []api.Change) model {
	next := maps.Clone(m)
	for _, c := range l {
		if c.Gone {
			delete(next, c.Key)
		} else {
			next[c.Key] = c.Val
		}
	}
	return next
}

func (m model) rows() []api.Row {
	var l []api.Row
	for _, key := range slices.Sorted(maps.Keys(m)) {
		l = append(l, api.Row{Key: key, Val: m[key]})
	}
	return l
}

func TestAgainstAModel(t *testing.T) {
	x := die(3)
	for range 60 {
		sectors := []int{54, 60, 64, 80, 200}[x.n(5)]
		d, s := newStore(t, sectors)
		m, room := model{}, sectors-50
		for range 60 {
			switch x.n(8) {
			case 0:
				checkpoints(t, s)
				room = sectors - 50
			case 1:
				d.Restart(x.bits())
				s = opens(t, d)
			default:
				l := deedOf(&x, 12)
				next, need := m.behind(l), len(l)+1
				var want error
				if len(next) > 40 || need > sectors-50 {
					want = api.ErrFull
				} else if m = next; need > room {
					room = sectors - 50 - need
				} else {
					room -= need
				}
				if err := s.Commit(l); err != want {
					t.Fatalf("I2: Commit(%v) = %v, not %v", l, err, want)
				}
			}
			has(t, s, room, m.rows())
		}
	}
}

// act on a store: a commit, or, if lay is set, a checkpoint.
type act struct {
	l   []api.Change
	lay bool
}

func actsOf(x *die) []act {
	var l []act
	for range 2 + x.n(4) {
		l = append(l, act{deedOf(x, 3), x.n(3) == 0})
	}
	return l
}

// fallen: acts on a new store whose disk falls at a step; the rows ahead of the act in which it fell, and behind it.
func fallen(t *testing.T, acts []act, step int) (d *disk.Disk, was, next model) {
	t.Helper()
	d, s := newStore(t, 57)
	was = model{}
	d.Arm(step)
	for _, a := range acts {
		next = was.behind(a.l)
		var err error
		if a.lay {
			next, err = was, s.Checkpoint()
		} else {
			err = s.Commit(a.l)
		}
		if err == api.ErrDown {
			break
		}
		if err != nil {
			t.Fatalf("I2, I3: %v", err)
		}
		was = next
	}
	return d, was, next
}

// TestFalls: behind a fall at each step the store is opened, and has what was committed, or that and what was being committed.
func TestFalls(t *testing.T) {
	x := die(5)
	for range 40 {
		acts := actsOf(&x)
		for step, down := 0, true; down; step++ {
			for i := range 12 {
				keep := []uint64{0, math.MaxUint64, 1, 2, 1<<63 | 6}[i%5]
				if i > 4 {
					keep = x.bits()
				}
				d, was, next := fallen(t, acts, step)
				if down = d.Down(); !down {
					break
				}
				d.Restart(keep)
				s := opens(t, d)
				if got := s.Rows(); !slices.Equal(got, was.rows()) && !slices.Equal(got, next.rows()) {
					t.Fatalf("I4, W5: behind a fall at the step %d are %q, neither %q nor %q", step, got, was.rows(), next.rows())
				}
				goesOn(t, d, s)
			}
		}
	}
}

// goesOn: what a store has behind a fall stays, and what is committed then is there.
func goesOn(t *testing.T, d *disk.Disk, s *store.Store) {
	t.Helper()
	m := model{}
	for _, r := range s.Rows() {
		m[r.Key] = r.Val
	}
	for i := range 4 {
		l := deed(set("t/more", strconv.Itoa(i)), gone("t/a"))
		commits(t, s, l...)
		m = m.behind(l)
		d.Restart(0)
		if got := opens(t, d).Rows(); !slices.Equal(got, m.rows()) {
			t.Fatalf("I2, I4: behind a fall, and a commit, are %q, not %q", got, m.rows())
		}
		if i == 2 {
			checkpoints(t, s)
		}
	}
}

// TestFallsWhileAllRowsAreLaid: as many as may be, so that every sector of an area is written, twice on each.
func TestFallsWhileAllRowsAreLaid(t *testing.T) {
	x := die(6)
	for round := range 3 {
		for step, down := 0, true; down; step++ {
			for _, keep := range []uint64{0, math.MaxUint64, 0xfffffe, x.bits(), x.bits()} {
				d, s := fullStore(t)
				for range round {
					checkpoints(t, s)
					commits(t, s, puts(0, 3)...)
				}
				want := s.Rows()
				d.Arm(step)
				err := s.Checkpoint()
				if down = d.Down(); down != (err == api.ErrDown) {
					t.Fatalf("I3: Checkpoint() = %v", err)
				}
				d.Restart(keep)
				if got := opens(t, d).Rows(); !slices.Equal(got, want) {
					t.Fatalf("I4, W5: behind a fall at the step %d are %q, not %q", step, got, want)
				}
			}
		}
	}
}

func TestFallAgainAndAgain(t *testing.T) {
	x := die(8)
	for range 60 {
		d, s := newStore(t, 60)
		m := model{}
		for range 40 {
			l := deedOf(&x, 4)
			next := m.behind(l)
			d.Arm(x.n(30))
			var err error
			if x.n(4) == 0 {
				next, err = m, s.Checkpoint()
			} else {
				err = s.Commit(l)
			}
			d.Restart(x.bits())
			s = opens(t, d)
			got := s.Rows()
			switch {
			case err != api.ErrFull && slices.Equal(got, next.rows()):
				m = next
			case err == nil || !slices.Equal(got, m.rows()):
				t.Fatalf("I4, W5: behind %v are %q, of which %q was committed", err, got, m.rows())
			}
		}
	}
}

func TestFallWhileFormatting(t *testing.T) {
	for step, down := 0, true; down; step++ {
		for keep := range uint64(8) {
			d, s := newStore(t, 60)
			commits(t, s, set("t/a", "1"))
			checkpoints(t, s)
			commits(t, s, set("t/b", "2"))
			d.Arm(step)
			err := store.Format(d)
			down = d.Down()
			d.Restart(keep)
			got := opens(t, d).Rows()
			if len(got) != 0 && (err == nil || !slices.Equal(got, rows("t/a", "1", "t/b", "2"))) {
				t.Fatalf("I1, I4: Format = %v, and behind it are %q", err, got)
			}

			d = newDisk(t, 60)
			fill(t, d, logAt, "c\x01\x00\x00\x00\x04\x00\x00\x00\x00")
			d.Arm(step)
			err = store.Format(d)
			d.Restart(keep)
			if s, wrong := store.Open(d); wrong == nil {
				has(t, s, 10, nil)
			} else if err == nil || wrong != api.ErrText {
				t.Fatalf("I1: Format = %v, and behind it Open = %v", err, wrong)
			}
		}
	}
}

// TestWrongSectors: nothing is said of what a store is whose disk others wrote to, but every call ends, and none panics.
func TestWrongSectors(t *testing.T) {
	d, s := fullStore(t)
	checkpoints(t, s)
	commits(t, s, set("t/a", "1"), gone(row.Message("abcdef", 0)))
	sectors := all(t, d)
	// Each of the first bytes of the root, of rows and of the log, as each other one.
	for i := range 20 * 256 {
		for _, at := range []int{0, 1, 25, logAt, logAt + 1} {
			b := []byte(sectors[at])
			b[i/256] = byte(i)
			useWrong(t, d, sectors, at, b)
		}
	}
	x := die(9)
	for i := range 6000 {
		at := []int{0, 0, 1, 1 + x.n(49), 25 + x.n(24), logAt + x.n(4)}[i%6]
		b := []byte(sectors[at])
		for range 1 + x.n(3) {
			b[[]int{x.n(18), x.n(96)}[x.n(2)]] = []byte{0, 1, 2, 255, byte(x.n(256))}[x.n(5)]
		}
		useWrong(t, d, sectors, at, b)
	}
}

// useWrong: a store one of whose sectors is another one; then the disk is as it was.
func useWrong(t *testing.T, d *disk.Disk, sectors []string, at int, wrong []byte) {
	t.Helper()
	_ = d.Write(at, string(wrong))
	s, err := store.Open(d)
	if err == nil {
		_ = s.Commit(puts(0, 12))
		_ = s.Checkpoint()
		_, _ = s.Rows(), s.Room()
		for at, s := range sectors {
			_ = d.Write(at, s)
		}
	} else if s != nil || err != api.ErrText {
		t.Fatalf("I1, Z1: Open = %v, %v", s, err)
	}
	fill(t, d, at, sectors[at])
}

// TestMoreRowsThanMayBe: a log that makes so many is none of a store: they could not be laid.
func TestMoreRowsThanMayBe(t *testing.T) {
	d, s := fullStore(t)
	checkpoints(t, s)
	commits(t, s)
	sector, _ := d.Read(logAt)
	l, _, err := log.Open(d, logAt, 150, int(sector[1]))
	if err != nil {
		t.Fatal(err)
	}
	if err := l.Add(deed(set("t/a", "1"))); err != nil {
		t.Fatal(err)
	}
	opensNot(t, d, api.ErrText)
}

func TestStoresAreApart(t *testing.T) {
	d, s := newStore(t, 60)
	other, o := newStore(t, 60)
	commits(t, s, set("t/a", "1"))
	has(t, o, 10, nil)
	fall(d)
	commits(t, o, set("t/b", "2"))
	has(t, opens(t, other), 8, rows("t/b", "2"))
}
