package disk

import (
	"bytes"
	"math"
	"slices"
	"testing"

	"postrider/api"
)

// made answers a disk of that capacity.
func made(t *testing.T, capacity int) *Disk {
	t.Helper()
	d, e := New(capacity)
	if e != api.OK || d == nil {
		t.Fatalf("New(%d): %v, %d", capacity, d, e)
	}
	return d
}

// is holds what a disk tells against what it has to.
func is(t *testing.T, what string, d *Disk, want []byte, waits int) {
	t.Helper()
	if got := d.Read(0, math.MaxInt); !bytes.Equal(got, want) {
		t.Errorf("%s: Read %v, not %v", what, got, want)
	}
	if d.End() != len(want) {
		t.Errorf("%s: End %d, not %d", what, d.End(), len(want))
	}
	if d.Waits() != waits {
		t.Errorf("%s: Waits %d, not %d", what, d.Waits(), waits)
	}
}

// answers holds an error against what it has to be.
func answers(t *testing.T, what string, got, want api.Errno) {
	t.Helper()
	if got != want {
		t.Errorf("%s: %d, not %d", what, got, want)
	}
}

// example answers the disk of the chapter's example, ahead of its crash.
func example(t *testing.T) *Disk {
	t.Helper()
	d := made(t, 9)
	answers(t, "Write(0, 1 2 3)", d.Write(0, []byte{1, 2, 3}), api.OK)
	answers(t, "Sync", d.Sync(), api.OK)
	answers(t, "Write(1, 8 9 7)", d.Write(1, []byte{8, 9, 7}), api.OK)
	answers(t, "Write(4, 5 5)", d.Write(4, []byte{5, 5}), api.OK)
	return d
}

// P1.1: which capacities may be, and what a new disk has.
func TestNew(t *testing.T) {
	for _, capacity := range []int{math.MinInt, -1, api.MaxDisk + 1, math.MaxInt} {
		if d, e := New(capacity); d != nil || e != api.ErrArg {
			t.Errorf("New(%d): %v, %d", capacity, d, e)
		}
	}
	for _, capacity := range []int{0, 1, api.MaxDisk} {
		is(t, "new", made(t, capacity), nil, 0)
	}
}

// P1.1: a disk is written up to its capacity, and no further.
func TestWriteToCapacity(t *testing.T) {
	for _, capacity := range []int{0, 1, 7, api.MaxDisk} {
		d := made(t, capacity)
		answers(t, "one too many", d.Write(0, make([]byte, capacity+1)), api.ErrFull)
		is(t, "one too many", d, nil, 0)
		answers(t, "just as many", d.Write(0, make([]byte, capacity)), api.OK)
		is(t, "just as many", d, make([]byte, capacity), 1)
		answers(t, "one more", d.Write(capacity, []byte{1}), api.ErrFull)
		answers(t, "none more", d.Write(capacity, nil), api.OK)
		is(t, "none more", d, make([]byte, capacity), 2)
	}
}

// P1.1: where a write may be laid, and what is then there.
func TestWritePlaces(t *testing.T) {
	for _, x := range []struct {
		at   int
		b    string
		code api.Errno
		want string
	}{
		{0, "XY", api.OK, "XYcd"},
		{1, "XY", api.OK, "aXYd"},
		{3, "XY", api.OK, "abcXY"},
		{4, "XY", api.OK, "abcdXY"},
		{0, "UVWXYZ", api.OK, "UVWXYZ"},
		{2, "", api.OK, "abcd"},
		{4, "", api.OK, "abcd"},
		{5, "XY", api.ErrArg, "abcd"},
		{5, "", api.ErrArg, "abcd"},
		{-1, "XY", api.ErrArg, "abcd"},
		{-1, "", api.ErrArg, "abcd"},
		{math.MinInt, "XY", api.ErrArg, "abcd"},
		{math.MaxInt, "XY", api.ErrArg, "abcd"},
		{4, "12345", api.ErrFull, "abcd"},
		{0, "123456789", api.ErrFull, "abcd"},
	} {
		for _, sync := range []bool{true, false} {
			d := made(t, 8)
			d.Write(0, []byte("abcd"))
			waits := 1
			if sync {
				d.Sync()
				waits = 0
			}
			answers(t, x.b, d.Write(x.at, []byte(x.b)), x.code)
			if x.code == api.OK {
				waits++
			}
			is(t, x.b, d, []byte(x.want), waits)
		}
	}
}

// P1.1: Sync makes all sure that waits, and takes nothing else for sure.
func TestSync(t *testing.T) {
	d := made(t, 9)
	answers(t, "Sync of nothing", d.Sync(), api.OK)
	is(t, "Sync of nothing", d, nil, 0)
	d.Write(0, []byte("abc"))
	d.Write(1, []byte("XYZ"))
	d.Write(4, nil)
	is(t, "ahead of Sync", d, []byte("aXYZ"), 3)
	answers(t, "Sync", d.Sync(), api.OK)
	is(t, "behind Sync", d, []byte("aXYZ"), 0)
	d.Write(0, []byte("qqqqqq"))
	answers(t, "Crash", d.Crash(nil), api.OK)
	is(t, "Crash", d, []byte("aXYZ"), 0)
}

// P1.1: a filled disk refuses writes alone, until that is taken back.
func TestFill(t *testing.T) {
	d := made(t, 8)
	d.Write(0, []byte("ab"))
	answers(t, "Fill", d.Fill(true), api.OK)
	answers(t, "filled", d.Write(0, []byte("c")), api.ErrFull)
	answers(t, "filled, no bytes", d.Write(0, nil), api.ErrFull)
	answers(t, "filled, below 0", d.Write(-1, nil), api.ErrArg)
	answers(t, "filled, behind the end", d.Write(3, nil), api.ErrArg)
	is(t, "filled", d, []byte("ab"), 1)
	answers(t, "filled, Sync", d.Sync(), api.OK)
	is(t, "filled, Sync", d, []byte("ab"), 0)
	answers(t, "filled, Crash", d.Crash(nil), api.OK)
	answers(t, "a crash takes it not back", d.Write(2, []byte("c")), api.ErrFull)
	answers(t, "Fill twice", d.Fill(true), api.OK)
	answers(t, "taken back", d.Fill(false), api.OK)
	answers(t, "taken back", d.Write(2, []byte("c")), api.OK)
	is(t, "taken back", d, []byte("abc"), 1)
	answers(t, "Crash", d.Crash(nil), api.OK)
	answers(t, "a crash fills none", d.Write(2, []byte("d")), api.OK)
}

// P1.1 to P1.3: a disk that New did not make, and none at all.
func TestNone(t *testing.T) {
	for _, d := range []*Disk{nil, {}} {
		answers(t, "Write", d.Write(0, nil), api.ErrNil)
		answers(t, "Write below 0", d.Write(-1, []byte("a")), api.ErrNil)
		answers(t, "Sync", d.Sync(), api.ErrNil)
		answers(t, "Fill", d.Fill(true), api.ErrNil)
		answers(t, "Crash", d.Crash([]int{1}), api.ErrNil)
		is(t, "none", d, nil, 0)
		if d.Copy() != nil {
			t.Error("a copy of none")
		}
	}
}

// P1.2: Read answers as many bytes as there are, at most many.
func TestRead(t *testing.T) {
	for _, x := range []struct {
		at, many int
		want     string
	}{
		{0, 0, ""},
		{0, 1, "a"},
		{0, 6, "abcdef"},
		{0, 7, "abcdef"},
		{2, 3, "cde"},
		{5, 1, "f"},
		{5, 9, "f"},
		{6, 1, ""},
		{7, 1, ""},
		{-1, 3, ""},
		{0, -1, ""},
		{2, -1, ""},
		{-1, -1, ""},
		{3, math.MaxInt, "def"},
		{math.MaxInt, math.MaxInt, ""},
		{math.MinInt, math.MaxInt, ""},
		{0, math.MinInt, ""},
	} {
		d := made(t, 9)
		d.Write(0, []byte("abcd"))
		d.Sync()
		d.Write(4, []byte("ef"))
		if got := d.Read(x.at, x.many); string(got) != x.want {
			t.Errorf("Read(%d, %d): %q, not %q", x.at, x.many, got, x.want)
		}
		is(t, "behind Read", d, []byte("abcdef"), 1)
	}
}

// P1.2 (and R3): what is handed in is not kept, what is answered is new.
func TestMemory(t *testing.T) {
	d := made(t, 9)
	b := []byte("abcd")
	d.Write(0, b)
	b[0] = 'X'
	is(t, "written, waiting", d, []byte("abcd"), 1)
	d.Sync()
	b[1] = 'X'
	is(t, "written, sure", d, []byte("abcd"), 0)
	d.Crash(nil)
	is(t, "written, sure, crashed", d, []byte("abcd"), 0)
	r := d.Read(0, 4)
	r[2] = 'X'
	_ = append(r, 'X')
	is(t, "read", d, []byte("abcd"), 0)
	b = []byte("XXYY")
	d.Write(0, b)
	b[0], b[3] = 'Z', 'Z'
	keep := []int{2}
	d.Crash(keep)
	is(t, "crashed", d, []byte("XXcd"), 0)
	if keep[0] != 2 || string(b) != "ZXYZ" {
		t.Error("handed in, and changed:", keep, b)
	}
	d.Read(0, 4)[0] = 'Z'
	d.Crash(nil)
	is(t, "read behind a crash", d, []byte("XXcd"), 0)
}

// P1.2: a copy has all that its disk has, and lives apart.
func TestCopy(t *testing.T) {
	d := made(t, 8)
	d.Write(0, []byte("abcd"))
	d.Sync()
	d.Write(4, []byte("ef"))
	d.Write(0, []byte("XY"))
	d.Fill(true)
	c := d.Copy()
	is(t, "copy", c, []byte("XYcdef"), 2)
	answers(t, "a copy of a filled one", c.Write(0, nil), api.ErrFull)

	c.Fill(false)
	answers(t, "filled still", d.Write(0, nil), api.ErrFull)
	answers(t, "the copy's capacity", c.Write(6, []byte("123")), api.ErrFull)
	answers(t, "the copy's own", c.Write(6, []byte("12")), api.OK)
	answers(t, "the copy's own", c.Write(1, []byte("Q")), api.OK)
	is(t, "copy, written", c, []byte("XQcdef12"), 4)
	is(t, "disk, when its copy was written", d, []byte("XYcdef"), 2)

	d.Fill(false)
	d.Crash([]int{1})
	d.Write(0, []byte("-----"))
	d.Sync()
	is(t, "disk, crashed", d, []byte("-----"), 0)
	is(t, "copy, when its disk crashed", c, []byte("XQcdef12"), 4)
	c.Crash([]int{2, 1})
	is(t, "copy, crashed", c, []byte("Xbcdef"), 0)
	is(t, "disk, when its copy crashed", d, []byte("-----"), 0)
}

// P1.2: a copy of what is empty, and a copy of a copy, are disks too.
func TestCopyOfCopy(t *testing.T) {
	d := made(t, 3).Copy().Copy()
	is(t, "empty", d, nil, 0)
	answers(t, "written", d.Write(0, []byte("abc")), api.OK)
	c := d.Copy()
	answers(t, "Sync", c.Sync(), api.OK)
	d.Crash(nil)
	is(t, "crashed", d, nil, 0)
	is(t, "the copy of it, synced", c, []byte("abc"), 0)
}

// P1.3: the chapter's example, and other crashes of the same disk.
func TestCrash(t *testing.T) {
	is(t, "the example", example(t), []byte{1, 8, 9, 7, 5, 5}, 2)
	for _, x := range []struct {
		keep []int
		want []byte
	}{
		{[]int{1, 2}, []byte{1, 8, 3, 0, 5, 5}},
		{nil, []byte{1, 2, 3}},
		{[]int{}, []byte{1, 2, 3}},
		{[]int{0, 0}, []byte{1, 2, 3}},
		{[]int{2}, []byte{1, 8, 9}},
		{[]int{3}, []byte{1, 8, 9, 7}},
		{[]int{3, 0}, []byte{1, 8, 9, 7}},
		{[]int{0, 1}, []byte{1, 2, 3, 0, 5}},
		{[]int{3, 2}, []byte{1, 8, 9, 7, 5, 5}},
		{[]int{4, 3}, []byte{1, 8, 9, 7, 5, 5}},
		{[]int{math.MaxInt, math.MaxInt}, []byte{1, 8, 9, 7, 5, 5}},
		{[]int{-1, 1}, []byte{1, 2, 3, 0, 5}},
		{[]int{math.MinInt, -1}, []byte{1, 2, 3}},
		{[]int{1, 0, 9, 9}, []byte{1, 8, 3}},
	} {
		d := example(t)
		answers(t, "Crash", d.Crash(x.keep), api.OK)
		is(t, "Crash", d, x.want, 0)
		// All that is there is sure: another crash takes nothing.
		answers(t, "Crash again", d.Crash([]int{9, 9}), api.OK)
		is(t, "Crash again", d, x.want, 0)
		answers(t, "behind the end", d.Write(len(x.want)+1, nil), api.ErrArg)
		answers(t, "at the end", d.Write(len(x.want), []byte{6}), api.OK)
		is(t, "written again", d, append(bytes.Clone(x.want), 6), 1)
	}
}

// P1.3: writes lie over one another in order, each as far as it is kept.
func TestCrashInOrder(t *testing.T) {
	for _, x := range []struct {
		keep []int
		want string
	}{
		{[]int{4, 0, 0}, "aaaa"},
		{[]int{4, 3, 0}, "bbba"},
		{[]int{4, 3, 1}, "bcba"},
		{[]int{4, 1, 2}, "bcca"},
		{[]int{1, 0, 2}, "acc"},
		{[]int{0, 0, 1}, "\x00c"},
		{[]int{9, 9, 9}, "bcca"},
	} {
		d := made(t, 4)
		d.Write(0, []byte("aaaa"))
		d.Write(0, []byte("bbb"))
		d.Write(1, []byte("cc"))
		d.Crash(x.keep)
		is(t, "in order", d, []byte(x.want), 0)
	}
}

// P1.3: a write of which nothing is kept moves the end not even to its place.
func TestCrashEnd(t *testing.T) {
	d := made(t, 9)
	d.Write(0, []byte("abcd"))
	d.Write(4, nil)
	d.Write(4, []byte("ef"))
	c := d.Copy()
	d.Crash([]int{1, 5, 0})
	is(t, "no bytes kept", d, []byte("a"), 0)
	c.Crash([]int{0, 5, 0})
	is(t, "none kept at all", c, nil, 0)
}

// P1.3: what was lost is not there again where a later write leaves a gap.
func TestCrashGap(t *testing.T) {
	d := made(t, 9)
	d.Write(0, []byte("abcdef"))
	d.Crash([]int{2})
	is(t, "torn", d, []byte("ab"), 0)
	d.Write(2, []byte("123"))
	d.Write(5, []byte("z"))
	d.Crash([]int{0, 1})
	is(t, "a gap", d, []byte("ab\x00\x00\x00z"), 0)
}

// every goes through all rows of numbers, each from -1 to most.
func every(many, most int, do func([]int)) {
	row := make([]int, many)
	var fill func(k int)
	fill = func(k int) {
		if k == many {
			do(slices.Clone(row))
			return
		}
		for n := -1; n <= most; n++ {
			row[k] = n
			fill(k + 1)
		}
	}
	fill(0)
}

// P1.4: bytes that were sure, and under no write that waits, stay.
func TestSureStays(t *testing.T) {
	d := made(t, 12)
	d.Write(0, []byte("abcdefgh"))
	d.Sync()
	d.Write(1, []byte("XY"))
	d.Write(2, []byte("Z"))
	d.Write(6, []byte("QRST"))
	every(3, 5, func(keep []int) {
		c := d.Copy()
		answers(t, "Crash", c.Crash(keep), api.OK)
		got := c.Read(0, 99)
		if c.End() < 8 || got[0] != 'a' || string(got[3:6]) != "def" {
			t.Errorf("%v: %q", keep, got)
		}
	})
}

// P1.5: a crash that keeps all, and one that keeps nothing.
func TestAllOrNothing(t *testing.T) {
	d := made(t, 12)
	d.Write(0, []byte("abcdef"))
	d.Write(2, []byte("XY"))
	d.Sync()
	sure := d.Read(0, 99)
	d.Write(5, []byte("1234"))
	d.Write(0, nil)
	d.Write(3, []byte("Z"))
	now := d.Read(0, 99)
	all, nothing := d.Copy(), d.Copy()
	all.Crash([]int{4, 0, 1})
	is(t, "all", all, now, 0)
	nothing.Crash([]int{0, 0, 0})
	is(t, "nothing", nothing, sure, 0)
	d.Crash(nil)
	is(t, "nothing told", d, sure, 0)
}

// P1.6: a write that is refused changes nothing, also not what a crash leaves.
func TestRefused(t *testing.T) {
	for _, x := range []struct {
		at   int
		b    []byte
		fill bool
		code api.Errno
	}{
		{-1, []byte("q"), false, api.ErrArg},
		{7, []byte("q"), false, api.ErrArg},
		{6, []byte("qqqq"), false, api.ErrFull},
		{0, make([]byte, 10), false, api.ErrFull},
		{0, []byte("q"), true, api.ErrFull},
		{6, nil, true, api.ErrFull},
	} {
		d := example(t)
		d.Fill(x.fill)
		answers(t, "refused", d.Write(x.at, x.b), x.code)
		is(t, "refused", d, []byte{1, 8, 9, 7, 5, 5}, 2)
		d.Fill(false)
		answers(t, "the place that is left", d.Write(6, []byte{4, 4, 4}), api.OK)
		for _, y := range []struct {
			keep []int
			want []byte
		}{
			{nil, []byte{1, 2, 3}},
			{[]int{1, 2, 0, 9}, []byte{1, 8, 3, 0, 5, 5}},
			{[]int{3, 2, 1, 9}, []byte{1, 8, 9, 7, 5, 5, 4}},
		} {
			c := d.Copy()
			c.Crash(y.keep)
			is(t, "refused, then crashed", c, y.want, 0)
		}
	}
}

// model is a disk told byte by byte: which are laid, and which of them are sure.
type model struct {
	capacity int
	filled   bool
	sure     map[int]byte
	waits    []wait
}

type wait struct {
	at int
	b  string
}

// with answers the bytes when of each write as many are kept as many tells.
func (m *model) with(many func(k int) int) map[int]byte {
	all := map[int]byte{}
	for at, b := range m.sure {
		all[at] = b
	}
	for k, w := range m.waits {
		for i := 0; i < len(w.b) && i < many(k); i++ {
			all[w.at+i] = w.b[i]
		}
	}
	return all
}

func (m *model) all() map[int]byte { return m.with(func(int) int { return math.MaxInt }) }

// row lays bytes told one by one in a row, with 0 for those that are not there.
func row(all map[int]byte) []byte {
	end := 0
	for at := range all {
		end = max(end, at+1)
	}
	b := make([]byte, end)
	for at, x := range all {
		b[at] = x
	}
	return b
}

func (m *model) write(at int, b []byte) api.Errno {
	end := len(row(m.all()))
	switch {
	case at < 0 || at > end:
		return api.ErrArg
	case m.filled || at+len(b) > m.capacity:
		return api.ErrFull
	}
	m.waits = append(m.waits, wait{at, string(b)})
	return api.OK
}

func (m *model) crash(keep []int) {
	m.sure = m.with(func(k int) int {
		if k < len(keep) {
			return keep[k]
		}
		return 0
	})
	m.waits = nil
}

// P1.1 to P1.6: whatever is done in a row, the disk is as the model.
func TestAsModel(t *testing.T) {
	seed := uint64(1)
	pick := func(n int) int {
		seed = seed*6364136223846793005 + 1442695040888963407
		return int(seed >> 33 % uint64(n))
	}
	for turn := range 300 {
		capacity := pick(24)
		d, m := made(t, capacity), &model{capacity: capacity, sure: map[int]byte{}}
		for range 60 {
			switch pick(9) {
			case 0:
				answers(t, "Sync", d.Sync(), api.OK)
				m.sure, m.waits = m.all(), nil
			case 1:
				keep := make([]int, pick(6))
				for k := range keep {
					keep[k] = pick(9) - 2
				}
				answers(t, "Crash", d.Crash(keep), api.OK)
				m.crash(keep)
			case 2:
				m.filled = pick(3) == 0
				answers(t, "Fill", d.Fill(m.filled), api.OK)
			case 3:
				d = d.Copy()
			default:
				at, b := pick(capacity+4)-1, make([]byte, pick(8))
				for i := range b {
					b[i] = byte(1 + pick(255))
				}
				answers(t, "Write", d.Write(at, b), m.write(at, b))
			}
			is(t, "as the model", d, row(m.all()), len(m.waits))
		}
		if t.Failed() {
			t.Fatal("turn", turn)
		}
	}
}
