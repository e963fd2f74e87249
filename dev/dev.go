// Package dev: sectors that a flush makes last.
package dev

import (
	"slices"

	"stackyard/api"
)

// sector is a value of its own, so that no text that was handed in is kept.
type sector [api.Sector]byte

// write that is pending.
type write struct {
	at int
	s  sector
}

// never: no write is to fail.
const never = -1

// Dev: what is flushed, and the writes that are pending. fail: how many writes more go well (below 0: all).
type Dev struct {
	flushed []sector
	seen    []sector // flushed, with all that is pending over it, so that a read need not go through the writes
	pending []write
	writes  int
	fail    int
}

// made of what is flushed, which it keeps.
func made(flushed []sector, writes int) *Dev {
	return &Dev{flushed: flushed, seen: slices.Clone(flushed), writes: writes, fail: never}
}

// New device, all noughts.
func New(sectors int) (*Dev, error) {
	if sectors < 1 || sectors > api.MaxSectors {
		return nil, api.ErrBound
	}
	return made(make([]sector, sectors), 0), nil
}

// Of bytes: a device on which these are flushed.
func Of(s string) (*Dev, error) {
	n := len(s) / api.Sector
	if len(s)%api.Sector != 0 || n < 1 || n > api.MaxSectors {
		return nil, api.ErrBound
	}
	l := make([]sector, n)
	for i := range n {
		copy(l[i][:], s[i*api.Sector:])
	}
	return made(l, 0), nil
}

// Size: how many sectors.
func (d *Dev) Size() int { return len(d.flushed) }

// has it such a sector?
func (d *Dev) has(at int) bool { return at >= 0 && at < len(d.flushed) }

// Read a sector: the last one written.
func (d *Dev) Read(at int) (string, error) {
	if !d.has(at) {
		return "", api.ErrBound
	}
	return string(d.seen[at][:]), nil
}

// Write a sector.
func (d *Dev) Write(at int, s string) error {
	if !d.has(at) || len(s) != api.Sector {
		return api.ErrBound
	}
	if d.fails() {
		return api.ErrIO
	}
	w := write{at: at}
	copy(w.s[:], s)
	d.pending = append(d.pending, w)
	d.seen[at] = w.s
	d.writes++
	return nil
}

// fails: is the write that comes now the one that fails? It is counted, too.
func (d *Dev) fails() bool {
	if d.fail == never {
		return false
	}
	d.fail-- // from 0 on to never: the writes behind the one that fails go well again
	return d.fail == never
}

// Flush all that is pending.
func (d *Dev) Flush() {
	copy(d.flushed, d.seen)
	d.pending = nil
}

// Pending: how many writes.
func (d *Dev) Pending() int { return len(d.pending) }

// Writes: how many went well, in all.
func (d *Dev) Writes() int { return d.writes }

// Fail: the write behind so many that go well fails.
func (d *Dev) Fail(n int) error {
	if n < 0 {
		return api.ErrBound
	}
	d.fail = n
	return nil
}

// Crash: another device, as power that fails leaves it: of the pending writes those are kept that keep says.
func (d *Dev) Crash(keep []bool) *Dev {
	left := slices.Clone(d.flushed)
	for i, w := range d.pending {
		if i < len(keep) && keep[i] {
			left[w.at] = w.s
		}
	}
	return made(left, d.writes)
}

// Bytes: what is flushed.
func (d *Dev) Bytes() string {
	b := make([]byte, 0, len(d.flushed)*api.Sector)
	for _, s := range d.flushed {
		b = append(b, s[:]...)
	}
	return string(b)
}

// Copy of a device.
func (d *Dev) Copy() *Dev {
	c := *d
	c.flushed = slices.Clone(d.flushed)
	c.seen = slices.Clone(d.seen)
	c.pending = slices.Clone(d.pending)
	return &c
}
