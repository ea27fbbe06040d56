// Package disk is layer 1: a store that forgets what was not synced.
package disk

import (
	"bytes"

	"postrider/api"
)

// Disk is a store that forgets what was not synced. Only New makes one.
type Disk struct {
	made     bool
	filled   bool
	capacity int
	// Both are held, so that neither a Read nor an End has to go through
	// what waits: sure outlives a crash, now has all that waits laid over it.
	sure, now []byte
	waits     []write
}

// write is bytes at a place.
type write struct {
	at    int
	bytes []byte
}

// New makes a disk of no bytes: P1.1.
func New(capacity int) (*Disk, api.Errno) {
	if capacity < 0 || capacity > api.MaxDisk {
		return nil, api.ErrArg
	}
	return &Disk{made: true, capacity: capacity}, api.OK
}

// Write lays bytes at a place, where they wait: P1.1.
func (d *Disk) Write(at int, b []byte) api.Errno {
	if d.none() {
		return api.ErrNil
	}
	if at < 0 || at > len(d.now) {
		return api.ErrArg
	}
	// at is within the capacity here: the difference, unlike the sum with
	// len(b), can't wrap round.
	if d.filled || len(b) > d.capacity-at {
		return api.ErrFull
	}
	w := write{at: at, bytes: bytes.Clone(b)}
	d.waits = append(d.waits, w)
	d.now = lay(d.now, w, len(w.bytes))
	return api.OK
}

// Sync makes sure all that waits: P1.1.
func (d *Disk) Sync() api.Errno {
	if d.none() {
		return api.ErrNil
	}
	for k := range len(d.waits) {
		d.sure = lay(d.sure, d.waits[k], len(d.waits[k].bytes))
	}
	d.waits = nil
	return api.OK
}

// Read answers the bytes from at on, at most many: P1.2.
func (d *Disk) Read(at, many int) []byte {
	if d.none() || at < 0 || at > len(d.now) || many < 0 {
		return nil
	}
	return bytes.Clone(d.now[at:][:min(many, len(d.now)-at)])
}

// End answers where the end is: P1.2.
func (d *Disk) End() int {
	if d.none() {
		return 0
	}
	return len(d.now)
}

// Waits answers how many writes wait: P1.2.
func (d *Disk) Waits() int {
	if d.none() {
		return 0
	}
	return len(d.waits)
}

// Fill says whether writes are refused: P1.1.
func (d *Disk) Fill(on bool) api.Errno {
	if d.none() {
		return api.ErrNil
	}
	d.filled = on
	return api.OK
}

// Crash forgets what waits, but the first keep[k] bytes of each write k: P1.3.
func (d *Disk) Crash(keep []int) api.Errno {
	if d.none() {
		return api.ErrNil
	}
	for k := range len(d.waits) {
		d.sure = lay(d.sure, d.waits[k], kept(keep, k))
	}
	d.waits = nil
	d.now = bytes.Clone(d.sure)
	return api.OK
}

// Copy answers a disk that lives apart: P1.2.
func (d *Disk) Copy() *Disk {
	if d.none() {
		return nil
	}
	c := *d
	c.sure = bytes.Clone(d.sure)
	c.now = bytes.Clone(d.now)
	c.waits = make([]write, len(d.waits))
	for k := range len(d.waits) {
		c.waits[k] = write{at: d.waits[k].at, bytes: bytes.Clone(d.waits[k].bytes)}
	}
	return &c
}

// none tells whether there is no disk, or one that New did not make.
func (d *Disk) none() bool {
	return d == nil || !d.made
}

// kept answers how many bytes are told to be kept of the write k.
func kept(keep []int, k int) int {
	if k >= len(keep) {
		return 0
	}
	return max(keep[k], 0)
}

// lay answers b with the first bytes of w, at most many, laid over it; what
// stands between the end of b and them is 0.
func lay(b []byte, w write, many int) []byte {
	first := w.bytes[:min(many, len(w.bytes))]
	// The end stays behind the last byte that was laid: where nothing is laid,
	// it must not move up to the write's place.
	if len(first) == 0 {
		return b
	}
	if more := w.at + len(first) - len(b); more > 0 {
		b = append(b, make([]byte, more)...)
	}
	copy(b[w.at:], first)
	return b
}
