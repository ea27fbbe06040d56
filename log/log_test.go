package log

import (
	"bytes"
	"fmt"
	"math"
	"testing"

	"postrider/api"
	"postrider/disk"
	"postrider/frame"
)

// newDisk answers a disk of that capacity.
func newDisk(t *testing.T, capacity int) *disk.Disk {
	t.Helper()
	d, e := disk.New(capacity)
	if e != api.OK {
		t.Fatalf("disk.New(%d): %d", capacity, e)
	}
	return d
}

// laid answers a disk on which these bytes are sure.
func laid(t *testing.T, capacity int, b []byte) *disk.Disk {
	t.Helper()
	d := newDisk(t, capacity)
	answers(t, "laid", d.Write(0, b), api.OK)
	answers(t, "laid", d.Sync(), api.OK)
	return d
}

// answers holds an error against what it has to be.
func answers(t *testing.T, what string, got, want api.Errno) {
	t.Helper()
	if got != want {
		t.Errorf("%s: %d, not %d", what, got, want)
	}
}

// chain answers the bytes of frames with those payloads, told by frame alone,
// and the sum of the last one.
func chain(t *testing.T, payloads ...string) ([]byte, uint32) {
	t.Helper()
	var all []byte
	sum := uint32(0)
	for k, p := range payloads {
		b, e := frame.Seal(sum, uint32(k+1), []byte(p))
		if e != api.OK {
			t.Fatalf("Seal of %d bytes: %d", len(p), e)
		}
		all = append(all, b...)
		sum = frame.Sum(sum, uint32(k+1), []byte(p))
	}
	return all, sum
}

func bytesOfChain(t *testing.T, payloads ...string) []byte {
	t.Helper()
	b, _ := chain(t, payloads...)
	return b
}

// texts answers payloads as texts.
func texts(payloads [][]byte) []string {
	var all []string
	for _, p := range payloads {
		all = append(all, string(p))
	}
	return all
}

// same tells whether two rows of payloads are alike.
func same(a, b []string) bool { return fmt.Sprintf("%q", a) == fmt.Sprintf("%q", b) }

// whole answers all bytes of a disk.
func whole(d *disk.Disk) []byte { return d.Read(0, math.MaxInt) }

// is holds what a log tells of itself against what it has to.
func is(t *testing.T, what string, l *Log, many, sure uint32, size int) {
	t.Helper()
	if l.Next() != many+1 || l.Sure() != sure || l.Size() != size {
		t.Errorf("%s: Next %d, Sure %d, Size %d, not %d, %d, %d", what, l.Next(), l.Sure(), l.Size(), many+1, sure, size)
	}
}

// recovered recovers a log, and holds it against the payloads it has to have.
func recovered(t *testing.T, what string, d *disk.Disk, want ...string) *Log {
	t.Helper()
	l, got, e := Recover(d)
	if e != api.OK || l == nil {
		t.Fatalf("%s: Recover: %v, %d", what, l, e)
	}
	if !same(texts(got), want) {
		t.Errorf("%s: recovered %q, not %q", what, texts(got), want)
	}
	frames := bytesOfChain(t, want...)
	is(t, what, l, uint32(len(want)), uint32(len(want)), len(frames))
	b := whole(d)
	if !bytes.HasPrefix(b, frames) || !bytes.Equal(b[len(frames):], make([]byte, len(b)-len(frames))) {
		t.Errorf("%s: the disk is % x, not % x and bytes 0", what, b, frames)
	}
	return l
}

// appended appends, and holds the number against what it has to be.
func appended(t *testing.T, l *Log, payload string, want uint32) {
	t.Helper()
	if n, e := l.Append([]byte(payload)); n != want || e != api.OK {
		t.Errorf("Append of %d bytes: %d, %d, not number %d", len(payload), n, e, want)
	}
}

// refused holds an Append that tells an error against it, and against nothing beside.
func refused(t *testing.T, what string, l *Log, payload []byte, want api.Errno) {
	t.Helper()
	if n, e := l.Append(payload); n != 0 || e != want {
		t.Errorf("%s: %d, %d, not 0, %d", what, n, e, want)
	}
}

// P3.1: a disk without bytes has a log without frames.
func TestRecoverEmpty(t *testing.T) {
	for _, capacity := range []int{0, 1, 11, api.MaxDisk} {
		d := newDisk(t, capacity)
		recovered(t, "empty", d)
		if d.End() != 0 || d.Waits() != 0 {
			t.Error("written on an empty disk:", d.End(), d.Waits())
		}
	}
}

// P3.1 to P3.3: a log that Recover did not make, or none; a disk that is none.
func TestNone(t *testing.T) {
	for _, l := range []*Log{nil, {}} {
		refused(t, "Append of none", l, []byte("a"), api.ErrNil)
		refused(t, "Append of none, too long", l, make([]byte, api.MaxPayload+1), api.ErrNil)
		answers(t, "Sync of none", l.Sync(), api.ErrNil)
		if l.Next() != 0 || l.Sure() != 0 || l.Size() != 0 {
			t.Error("none tells", l.Next(), l.Sure(), l.Size())
		}
	}
	for _, d := range []*disk.Disk{nil, {}} {
		if l, got, e := Recover(d); l != nil || len(got) != 0 || e != api.ErrNil {
			t.Errorf("Recover of none: %v, %q, %d", l, got, e)
		}
	}
}

// P3.1: frames that stand on a disk are recovered, in order, of whatever size.
func TestRecover(t *testing.T) {
	long := string(bytes.Repeat([]byte{7}, api.MaxPayload))
	for _, payloads := range [][]string{
		{""},
		{"a"},
		{"", "", ""},
		{"a", "bb", "", "ccc"},
		{long, "a", long},
		{string(make([]byte, 300)), "\x00"},
	} {
		b := bytesOfChain(t, payloads...)
		for _, room := range []int{0, 1, 100} {
			d := laid(t, len(b)+room, b)
			d.Fill(true)
			recovered(t, "just frames, also on a filled disk", d, payloads...)
			if !bytes.Equal(whole(d), b) || d.Waits() != 0 {
				t.Error("the disk has other bytes, or some that wait")
			}
		}
	}
}

// P3.1: what is not a frame, or not the next one, ends the log, and bytes 0 are
// written over all that stands there.
func TestRecoverBehind(t *testing.T) {
	good, sum := chain(t, "a", "bb")
	seal := func(ahead, number uint32, payload string) []byte {
		b, _ := frame.Seal(ahead, number, []byte(payload))
		return b
	}
	turned := seal(sum, 3, "ccc")
	turned[len(turned)-1] ^= 1
	late := append(bytes.Clone(turned), seal(frame.Sum(sum, 3, []byte("ccc")), 4, "d")...)
	for _, x := range []struct {
		what string
		tail []byte
	}{
		{"one byte", []byte{9}},
		{"one byte 0", []byte{0}},
		{"bytes 0", make([]byte, 40)},
		{"bytes ff", bytes.Repeat([]byte{255}, 40)},
		{"a frame cut short", seal(sum, 3, "ccc")[:12]},
		{"a frame's ten first bytes alone", seal(sum, 3, "ccc")[:10]},
		{"a frame with a bit turned", turned},
		{"a frame with a bit turned, and one behind it", late},
		{"the number ahead", seal(sum, 2, "ccc")},
		{"a number left out", seal(sum, 4, "ccc")},
		{"the first frame again", seal(0, 1, "a")},
		{"no check ahead", seal(0, 3, "ccc")},
		{"another check ahead", seal(sum^1, 3, "ccc")},
		{"a payload too long", append([]byte{0x40, 1, 0, 0, 0, 3, 0, 0, 0, 0}, make([]byte, api.MaxPayload+1)...)},
	} {
		b := append(bytes.Clone(good), x.tail...)
		d := laid(t, len(b), b)
		recovered(t, x.what, d, "a", "bb")
		if d.End() != len(b) || d.Waits() != 0 {
			t.Errorf("%s: End %d, Waits %d", x.what, d.End(), d.Waits())
		}
		// The bytes 0 are synced: a crash that keeps nothing leaves them.
		d.Crash(nil)
		if !bytes.Equal(whole(d), append(bytes.Clone(good), make([]byte, len(x.tail))...)) {
			t.Errorf("%s: behind a crash the disk is % x", x.what, whole(d))
		}
		only := laid(t, len(b), x.tail)
		if x.what != "the first frame again" {
			recovered(t, x.what+", alone", only)
		}
	}
}

// P3.1: the first frame carries the check 0, and number 1.
func TestRecoverFirst(t *testing.T) {
	for _, x := range []struct{ ahead, number uint32 }{{1, 1}, {0, 0}, {0, 2}, {1, 0}} {
		b, _ := frame.Seal(x.ahead, x.number, []byte("a"))
		recovered(t, "another first frame", laid(t, 99, b))
	}
	b, _ := frame.Seal(0, 1, []byte("a"))
	recovered(t, "a first frame", laid(t, 99, b), "a")
}

// P3.1: where bytes 0 can't be written, there is no log, and the disk stays.
func TestRecoverFull(t *testing.T) {
	good := bytesOfChain(t, "a", "bb")
	for _, tail := range [][]byte{{9}, {0}, good, make([]byte, 30)} {
		b := append(bytes.Clone(good), tail...)
		d := laid(t, len(b)+9, b)
		d.Write(len(b), []byte("zz"))
		d.Write(len(good), []byte{5})
		was := whole(d)
		d.Fill(true)
		for range 2 {
			if l, got, e := Recover(d); l != nil || len(got) != 0 || e != api.ErrFull {
				t.Errorf("a filled disk: %v, %q, %d", l, got, e)
			}
			if !bytes.Equal(whole(d), was) || d.Waits() != 2 {
				t.Errorf("the disk has changed: % x, %d", whole(d), d.Waits())
			}
		}
		answers(t, "filled still", d.Write(0, nil), api.ErrFull)
		c := d.Copy()
		c.Crash(nil)
		if !bytes.Equal(whole(c), b) {
			t.Errorf("what is sure has changed: % x", whole(c))
		}
		d.Fill(false)
		recovered(t, "filled no more", d, "a", "bb")
	}
}

// P3.1, P3.4: what waits is read as it is, and what was recovered is sure, with
// something behind it or not: no crash takes it any more.
func TestRecoverWaiting(t *testing.T) {
	for _, payloads := range [][]string{{""}, {"a"}, {"a", "", "ccc"}, {string(make([]byte, 20)), "b"}} {
		for synced := range len(payloads) + 1 {
			for _, tail := range [][]byte{nil, {0}, {9}, make([]byte, 30)} {
				d := newDisk(t, 99)
				l := recovered(t, "empty", d)
				for k, p := range payloads {
					appended(t, l, p, uint32(k+1))
					if k < synced {
						l.Sync()
					}
				}
				d.Write(d.End(), tail)
				l = recovered(t, "waiting", d, payloads...)
				if d.Waits() != 0 {
					t.Errorf("%q and % x, %d synced: Waits %d", payloads, tail, synced, d.Waits())
				}
				appended(t, l, "lost", uint32(len(payloads)+1))
				d.Crash([]int{5})
				recovered(t, "waiting, and crashed", d, payloads...)
			}
		}
	}
}

// P3.1, P3.4: a filled disk refuses writes, no sync: what is recovered of it is sure.
func TestRecoverWaitingFilled(t *testing.T) {
	d := newDisk(t, 99)
	l := recovered(t, "empty", d)
	appended(t, l, "a", 1)
	appended(t, l, "bb", 2)
	d.Fill(true)
	recovered(t, "waiting, and filled", d, "a", "bb")
	d.Crash(nil)
	recovered(t, "waiting, filled and crashed", d, "a", "bb")
}

// P3.1: where bytes 0 can't be written, nothing is synced: what waits may be lost.
func TestRecoverFullWaiting(t *testing.T) {
	d := newDisk(t, 99)
	l := recovered(t, "empty", d)
	appended(t, l, "a", 1)
	l.Sync()
	appended(t, l, "bb", 2)
	d.Write(d.End(), []byte{9})
	d.Fill(true)
	if l, got, e := Recover(d); l != nil || len(got) != 0 || e != api.ErrFull || d.Waits() != 2 {
		t.Errorf("a filled disk: %v, %q, %d, Waits %d", l, got, e, d.Waits())
	}
	d.Crash(nil)
	recovered(t, "crashed", d, "a")
}

// P3.2, P3.3: what an Append writes, numbers and waits.
func TestAppend(t *testing.T) {
	d := newDisk(t, 1<<17)
	l := recovered(t, "empty", d)
	payloads := []string{"first", "", "third", string(make([]byte, 17)), string(bytes.Repeat([]byte{3}, api.MaxPayload)), "last"}
	for k, p := range payloads {
		appended(t, l, p, uint32(k+1))
		b := bytesOfChain(t, payloads[:k+1]...)
		is(t, "appended", l, uint32(k+1), 0, len(b))
		if !bytes.Equal(whole(d), b) || d.Waits() != k+1 {
			t.Errorf("appended %d: %d bytes, %d wait", k+1, d.End(), d.Waits())
		}
	}
	recovered(t, "appended", d, payloads...)
}

// P3.2, P3.3: Sync makes sure all that was appended, and nothing else.
func TestSync(t *testing.T) {
	d := newDisk(t, 200)
	l := recovered(t, "empty", d)
	answers(t, "Sync of nothing", l.Sync(), api.OK)
	is(t, "Sync of nothing", l, 0, 0, 0)
	appended(t, l, "a", 1)
	appended(t, l, "bb", 2)
	is(t, "ahead of Sync", l, 2, 0, 23)
	answers(t, "Sync", l.Sync(), api.OK)
	is(t, "behind Sync", l, 2, 2, 23)
	if d.Waits() != 0 {
		t.Error("Waits:", d.Waits())
	}
	appended(t, l, "ccc", 3)
	is(t, "one more", l, 3, 2, 36)
	d.Fill(true)
	answers(t, "Sync of a filled disk", l.Sync(), api.OK)
	is(t, "Sync of a filled disk", l, 3, 3, 36)
	d.Crash(nil)
	recovered(t, "synced", d, "a", "bb", "ccc")
}

// P3.2, P3.6: an Append that tells an error, which one, and that nothing changes.
func TestAppendRefused(t *testing.T) {
	const room = 23 + 15
	for _, x := range []struct {
		what    string
		fill    bool
		payload int
		want    api.Errno
	}{
		{"a payload too long by one", false, api.MaxPayload + 1, api.ErrLong},
		{"a payload too long for its size to be told", false, 1 << 16, api.ErrLong},
		{"a payload too long, and filled", true, api.MaxPayload + 1, api.ErrLong},
		{"a payload that may be, and no room", false, api.MaxPayload, api.ErrFull},
		{"no room for one byte", false, 6, api.ErrFull},
		{"filled", true, 1, api.ErrFull},
		{"filled, no payload", true, 0, api.ErrFull},
	} {
		for _, sync := range []bool{true, false} {
			d := newDisk(t, room)
			l := recovered(t, "empty", d)
			appended(t, l, "a", 1)
			l.Sync()
			appended(t, l, "bb", 2)
			sure := uint32(1)
			if sync {
				l.Sync()
				sure = 2
			}
			was, waits := whole(d), d.Waits()
			d.Fill(x.fill)
			for range 3 {
				refused(t, x.what, l, make([]byte, x.payload), x.want)
				is(t, x.what, l, 2, sure, 23)
				if !bytes.Equal(whole(d), was) || d.Waits() != waits {
					t.Errorf("%s: the disk has changed", x.what)
				}
			}
			d.Fill(false)
			appended(t, l, "dddd5", 3)
			is(t, "the room that is left", l, 3, sure, room)
			refused(t, "no room at all", l, nil, api.ErrFull)
			recovered(t, x.what, d, "a", "bb", "dddd5")
		}
	}
}

// P3.2: what disk's Write tells, when the disk was cut behind the log's back.
func TestAppendBehindCrash(t *testing.T) {
	d := newDisk(t, 99)
	l := recovered(t, "empty", d)
	appended(t, l, "a", 1)
	d.Crash(nil)
	refused(t, "behind the disk's end", l, []byte("bb"), api.ErrArg)
	is(t, "behind the disk's end", l, 1, 0, 11)
	if d.End() != 0 || d.Waits() != 0 {
		t.Error("the disk has changed")
	}
	appended(t, recovered(t, "anew", d), "bb", 1)
}

// P3.2: what disk tells, when it was made none behind the log's back.
func TestDiskGone(t *testing.T) {
	d := newDisk(t, 99)
	l := recovered(t, "empty", d)
	appended(t, l, "a", 1)
	*d = disk.Disk{}
	refused(t, "on no disk", l, []byte("bb"), api.ErrNil)
	answers(t, "Sync on no disk", l.Sync(), api.ErrNil)
	is(t, "on no disk", l, 1, 0, 11)
}

// P3.2: a log goes on behind what was recovered, over the bytes 0.
func TestAppendRecovered(t *testing.T) {
	good := bytesOfChain(t, "a", "bb")
	d := laid(t, 200, append(bytes.Clone(good), bytes.Repeat([]byte{8}, 50)...))
	l := recovered(t, "recovered", d, "a", "bb")
	appended(t, l, "ccc", 3)
	is(t, "one more", l, 3, 2, 36)
	if d.End() != 73 {
		t.Error("End:", d.End())
	}
	l.Sync()
	is(t, "synced", l, 3, 3, 36)
	d.Crash(nil)
	l = recovered(t, "once more", d, "a", "bb", "ccc")
	appended(t, l, string(bytes.Repeat([]byte{1}, 90)), 4)
	if d.End() != 136 {
		t.Error("End:", d.End())
	}
}

// The chapter's example.
func TestExample(t *testing.T) {
	d := newDisk(t, 99)
	l := recovered(t, "empty", d)
	appended(t, l, "a", 1)
	l.Sync()
	appended(t, l, "bb", 2)
	d.Crash([]int{5})
	l = recovered(t, "torn", d, "a")
	appended(t, l, "c", 2)
	recovered(t, "the example", d, "a", "c")
}

// P3.4: a whole frame that stands behind a torn one is never a frame of the log
// again, not even when the torn one is appended anew just as it was.
func TestTornAhead(t *testing.T) {
	for _, crash := range []bool{false, true} {
		d := newDisk(t, 200)
		l := recovered(t, "empty", d)
		appended(t, l, "a", 1)
		l.Sync()
		appended(t, l, "bb", 2)
		appended(t, l, "ccc", 3)
		d.Crash([]int{7, 99})
		l = recovered(t, "torn", d, "a")
		if crash {
			d.Crash(nil)
			l = recovered(t, "torn, and crashed", d, "a")
		}
		appended(t, l, "bb", 2)
		d.Crash([]int{99})
		recovered(t, "the same again", d, "a", "bb")
	}
}

// P3.4: whatever is kept of frames that waited, a first part of the log is there.
func TestCrashes(t *testing.T) {
	payloads := []string{"one", "", "three", "4"}
	d := newDisk(t, 99)
	l := recovered(t, "empty", d)
	appended(t, l, payloads[0], 1)
	l.Sync()
	for k, p := range payloads[1:] {
		appended(t, l, p, uint32(k+2))
	}
	for a := range 11 {
		for b := range 16 {
			for c := range 12 {
				many := 1
				for k, kept := range []int{a, b, c} {
					if kept < frame.Head+len(payloads[k+1]) {
						break
					}
					many++
				}
				x := d.Copy()
				x.Crash([]int{a, b, c})
				recovered(t, fmt.Sprint("kept ", a, b, c), x, payloads[:many]...)
			}
		}
	}
}

// P3.5: what was recovered is recovered again, whatever comes behind.
func TestRecoveredAgain(t *testing.T) {
	d := newDisk(t, 300)
	want := []string{"a", "", "ccc"}
	d.Write(0, append(bytesOfChain(t, want...), "torn"...))
	recovered(t, "once", d, want...)
	for k := range 40 {
		l := recovered(t, "again", d, want...)
		switch k % 4 {
		case 0:
			refused(t, "too long", l, make([]byte, api.MaxPayload+1), api.ErrLong)
		case 1:
			appended(t, l, "lost", uint32(len(want)+1))
			d.Crash([]int{k % 14})
		case 2:
			d.Fill(true)
			refused(t, "filled", l, nil, api.ErrFull)
			d.Fill(false)
			d.Crash(nil)
		case 3:
			appended(t, l, "stays", uint32(len(want)+1))
			l.Sync()
			want = append(want, "stays")
			d.Crash(nil)
		}
	}
}

// R3: what is handed in is only read, and not kept; what is answered is new.
func TestMemory(t *testing.T) {
	d := newDisk(t, 200)
	l := recovered(t, "empty", d)
	room := append(make([]byte, 0, 64), "hello"...)
	l.Append(room)
	if string(room) != "hello" || !bytes.Equal(room[5:64], make([]byte, 59)) {
		t.Errorf("handed in, and changed: %q", room[:64])
	}
	room[0] = 'X'
	appended(t, l, "next", 2)
	l.Sync()
	m, got, _ := Recover(d)
	if !same(texts(got), []string{"hello", "next"}) {
		t.Errorf("kept: %q", got)
	}
	got[0][0] = 'Y'
	_ = append(got[0], "more"...)
	if string(got[1]) != "next" {
		t.Errorf("shared: %q", got)
	}
	appended(t, m, "last", 3)
	recovered(t, "answered, and changed", d, "hello", "next", "last")
}

// model is a log told by rows of payloads: all, and how many of them are sure.
type model struct {
	all  []string
	sure int
}

func (m *model) size() int {
	n := 0
	for _, p := range m.all {
		n += frame.Head + len(p)
	}
	return n
}

// least answers how many frames are left at least, when of each frame that waits
// as many bytes are kept as keep tells.
func (m *model) least(keep []int) int {
	left := m.sure
	for k := 0; left < len(m.all) && k < len(keep); k++ {
		if keep[k] < frame.Head+len(m.all[left]) {
			break
		}
		left++
	}
	return left
}

// crash takes what the disk has lost. It may have more than the least: where
// bytes 0 stood, the last bytes of a frame are there, kept or not, if they are 0.
func (m *model) crash(t *testing.T, d *disk.Disk, keep []int) {
	t.Helper()
	left, least, b := len(m.all), m.least(keep), whole(d)
	for !bytes.HasPrefix(b, bytesOfChain(t, m.all[:left]...)) {
		left--
	}
	if left < least {
		t.Errorf("kept %v: %d frames, not %d", keep, left, least)
	}
	m.all, m.sure = m.all[:left:left], left
}

// P3.1 to P3.6: whatever is done in a row, the log is as the model.
func TestAsModel(t *testing.T) {
	seed := uint64(1)
	pick := func(n int) int {
		seed = seed*6364136223846793005 + 1442695040888963407
		return int(seed >> 33 % uint64(n))
	}
	for turn := range 200 {
		capacity := pick(300)
		d, m := newDisk(t, capacity), &model{}
		l := recovered(t, "empty", d)
		for range 60 {
			switch pick(8) {
			case 0:
				answers(t, "Sync", l.Sync(), api.OK)
				m.sure = len(m.all)
			case 2:
				l = recovered(t, "not crashed", d, m.all...)
				m.sure = len(m.all)
			case 1:
				keep := make([]int, pick(5))
				for k := range keep {
					keep[k] = pick(20) - 2
				}
				d.Crash(keep)
				m.crash(t, d, keep)
				l = recovered(t, "crashed", d, m.all...)
			default:
				p := string(bytes.Repeat([]byte{byte(pick(3))}, pick(12)))
				if m.size()+frame.Head+len(p) > capacity {
					refused(t, "no room", l, []byte(p), api.ErrFull)
					break
				}
				m.all = append(m.all, p)
				appended(t, l, p, uint32(len(m.all)))
			}
			is(t, "as the model", l, uint32(len(m.all)), uint32(m.sure), m.size())
			if !bytes.HasPrefix(whole(d), bytesOfChain(t, m.all...)) {
				t.Error("the disk has other frames")
			}
		}
		if t.Failed() {
			t.Fatal("turn", turn)
		}
	}
}
