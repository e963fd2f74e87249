package image

import (
	"hash/crc32"
	"strings"
	"testing"

	"stackyard/api"
	"stackyard/dev"
)

// A device and an image once more, word by word as the document has them, with nothing of the program's but its errors.

type modelWrite struct {
	at int
	s  string
}

type modelDev struct {
	flushed []string
	pending []modelWrite
	fail    int // -1: none is ahead
	writes  int
	flushes int
}

func modelDevOf(s string) *modelDev {
	m := &modelDev{fail: -1}
	for ; len(s) > 0; s = s[16:] {
		m.flushed = append(m.flushed, s[:16])
	}
	return m
}

func (m *modelDev) read(at int) string {
	s := m.flushed[at]
	for _, w := range m.pending {
		if w.at == at {
			s = w.s
		}
	}
	return s
}

func (m *modelDev) write(at int, s string) error {
	if m.fail >= 0 {
		m.fail--
		if m.fail < 0 {
			return api.ErrIO
		}
	}
	m.pending = append(m.pending, modelWrite{at, s})
	m.writes++
	return nil
}

func (m *modelDev) flush() {
	for _, w := range m.pending {
		m.flushed[w.at] = w.s
	}
	m.pending = nil
	m.flushes++
}

func (m *modelDev) crash(keep []bool) *modelDev {
	c := &modelDev{flushed: append([]string(nil), m.flushed...), fail: -1, writes: m.writes}
	for n, w := range m.pending {
		if n < len(keep) && keep[n] {
			c.flushed[w.at] = w.s
		}
	}
	return c
}

type modelEntry struct{ kind, place int }

type model struct {
	d       *modelDev
	h       api.Head
	entries []modelEntry
	held    [40]bool
}

func modelNeed(h api.Head) int { return 1 + (h.Clusters+7)/8 + 4*h.Places }

func modelHead(h api.Head) string {
	b := []byte{'S', 'Y', byte(h.Clusters), byte(h.Places), byte(h.Back + 1), 0, 0, 0, 0, 0, 0, 0}
	s := crc32.ChecksumIEEE(b)
	return string(append(b, byte(s), byte(s>>8), byte(s>>16), byte(s>>24)))
}

func modelHeadMayBe(h api.Head) bool {
	return h.Clusters >= 1 && h.Clusters <= 32 && h.Places >= 0 && h.Places <= 40 && h.Back >= -1 && h.Back <= 4
}

func modelRow(entries []modelEntry, row int) string {
	b := make([]byte, 16)
	for n, e := range entries {
		if n/8 == row {
			b[n%8*2] = byte(e.kind)
			b[n%8*2+1] = byte(e.place)
		}
	}
	return string(b)
}

func modelCreate(d *modelDev, h api.Head) (*model, error) {
	if !modelHeadMayBe(h) || len(d.flushed) < modelNeed(h) {
		return nil, api.ErrBound
	}
	m := &model{d: d, h: h, entries: make([]modelEntry, h.Clusters)}
	for row := 0; row < (h.Clusters+7)/8; row++ {
		if err := d.write(1+row, modelRow(m.entries, row)); err != nil {
			return nil, err
		}
	}
	d.flush()
	if err := d.write(0, modelHead(h)); err != nil {
		return nil, err
	}
	d.flush()
	return m, nil
}

func modelOpen(d *modelDev) (*model, error) {
	s := d.read(0)
	h := api.Head{Clusters: int(s[2]), Places: int(s[3]), Back: int(s[4]) - 1}
	sum := crc32.ChecksumIEEE([]byte(s[:12]))
	if s[12:] != string([]byte{byte(sum), byte(sum >> 8), byte(sum >> 16), byte(sum >> 24)}) {
		return nil, api.ErrSum
	}
	if !modelHeadMayBe(h) || s != modelHead(h) {
		return nil, api.ErrShape
	}
	if len(d.flushed) < modelNeed(h) {
		return nil, api.ErrBound
	}
	m := &model{d: d, h: h}
	var used [256]bool
	for n := 0; n < (h.Clusters+7)/8*8; n++ {
		r := d.read(1 + n/8)
		e := modelEntry{int(r[n%8*2]), int(r[n%8*2+1])}
		if n >= h.Clusters && e != (modelEntry{}) || e.kind > 2 || e.kind != 2 && e.place != 0 {
			return nil, api.ErrShape
		}
		if e.kind == 2 && (e.place >= h.Places || used[e.place]) {
			return nil, api.ErrShape
		}
		if e.kind == 2 {
			used[e.place] = true
		}
		if n < h.Clusters {
			m.entries = append(m.entries, e)
		}
	}
	return m, nil
}

func (m *model) has(c int) bool { return c >= 0 && c < len(m.entries) }

// at: the sector of the device at which one of a place is.
func (m *model) at(place, sector int) int {
	return 1 + (m.h.Clusters+7)/8 + 4*place + sector
}

func (m *model) kind(c int) (int, error) {
	if !m.has(c) {
		return 0, api.ErrBound
	}
	return m.entries[c].kind, nil
}

func (m *model) read(c int) (string, error) {
	if !m.has(c) {
		return "", api.ErrBound
	}
	switch m.entries[c].kind {
	case 0:
		return "", api.ErrNone
	case 1:
		return strings.Repeat("\x00", 64), nil
	}
	p := m.entries[c].place
	return m.d.read(m.at(p, 0)) + m.d.read(m.at(p, 1)) + m.d.read(m.at(p, 2)) + m.d.read(m.at(p, 3)), nil
}

func (m *model) isFree(place int) bool {
	for _, e := range m.entries {
		if e == (modelEntry{2, place}) {
			return false
		}
	}
	return !m.held[place]
}

func (m *model) free() int {
	n := 0
	for p := 0; p < m.h.Places; p++ {
		if m.isFree(p) {
			n++
		}
	}
	return n
}

func (m *model) write(c, from int, s string) error {
	if !m.has(c) || from < 0 || from > 4 || len(s)%16 != 0 || len(s)/16 > 4-from {
		return api.ErrBound
	}
	if m.entries[c].kind != 2 {
		return api.ErrNone
	}
	for n := 0; n < len(s)/16; n++ {
		if err := m.d.write(m.at(m.entries[c].place, from+n), s[16*n:16*n+16]); err != nil {
			return err
		}
	}
	return nil
}

func (m *model) fill(c int, s string) error {
	if !m.has(c) || len(s) != 64 {
		return api.ErrBound
	}
	if m.entries[c].kind == 2 {
		return api.ErrExist
	}
	for p := 0; p < m.h.Places; p++ {
		if !m.isFree(p) {
			continue
		}
		for n := 0; n < 4; n++ {
			if err := m.d.write(m.at(p, n), s[16*n:16*n+16]); err != nil {
				return err
			}
		}
		m.flush()
		return m.set(c, modelEntry{2, p})
	}
	return api.ErrFull
}

func (m *model) clear(c int) error {
	if !m.has(c) {
		return api.ErrBound
	}
	if m.entries[c].kind == 1 {
		return nil
	}
	return m.set(c, modelEntry{1, 0})
}

func (m *model) set(c int, e modelEntry) error {
	l := append([]modelEntry(nil), m.entries...)
	l[c] = e
	if err := m.d.write(1+c/8, modelRow(l, c/8)); err != nil {
		return err
	}
	if old := m.entries[c]; old.kind == 2 {
		m.held[old.place] = true
	}
	m.entries = l
	return nil
}

func (m *model) flush() {
	m.d.flush()
	m.held = [40]bool{}
}

func (m *model) link(back int) error {
	h := api.Head{Clusters: m.h.Clusters, Places: m.h.Places, Back: back}
	if !modelHeadMayBe(h) {
		return api.ErrBound
	}
	m.flush()
	if err := m.d.write(0, modelHead(h)); err != nil {
		return err
	}
	m.flush()
	m.h = h
	return nil
}

// sameDev: is a device as the model has it? Each pending write is looked at on its own, so that their order is, too.
func sameDev(t *testing.T, d *dev.Dev, m *modelDev) {
	t.Helper()
	if d.Pending() != len(m.pending) || d.Writes() != m.writes || d.Size() != len(m.flushed) {
		t.Fatalf("a device with %d pending, %d writes, %d sectors, not %d, %d, %d", d.Pending(), d.Writes(), d.Size(), len(m.pending), m.writes, len(m.flushed))
	}
	if d.Bytes() != strings.Join(m.flushed, "") {
		t.Fatalf("flushed: %x, not %x", d.Bytes(), strings.Join(m.flushed, ""))
	}
	for n := range m.flushed {
		if s, err := d.Read(n); s != m.read(n) || err != nil {
			t.Fatalf("sector %d: %x, %v, not %x", n, s, err, m.read(n))
		}
	}
	for n := range m.pending {
		keep := make([]bool, n+1)
		keep[n] = true
		if got, want := d.Crash(keep).Bytes(), strings.Join(m.crash(keep).flushed, ""); got != want {
			t.Fatalf("pending write %d of %d makes %x, not %x", n, len(m.pending), got, want)
		}
	}
}

// same: is an image as the model has it, with its device?
func same(t *testing.T, i *Image, m *model) {
	t.Helper()
	sameDev(t, i.Dev(), m.d)
	if i.Head() != m.h {
		t.Fatalf("Head() = %v, not %v", i.Head(), m.h)
	}
	if i.Free() != m.free() {
		t.Fatalf("Free() = %d, not %d", i.Free(), m.free())
	}
	for c := -1; c <= len(m.entries); c++ {
		wantKind, wantErr := m.kind(c)
		if kind, err := i.Kind(c); kind != wantKind || err != wantErr {
			t.Fatalf("Kind(%d) = %d, %v, not %d, %v", c, kind, err, wantKind, wantErr)
		}
		want, wantErr := m.read(c)
		if s, err := i.Read(c); s != want || err != wantErr {
			t.Fatalf("Read(%d) = %x, %v, not %x, %v", c, s, err, want, wantErr)
		}
	}
}

// reopened: as same of the image that stands on the device now, which has all but what is held.
func reopened(t *testing.T, i *Image, m *model) {
	t.Helper()
	o, err := Open(i.Dev())
	if err != nil {
		t.Fatalf("Open: %v", err)
	}
	fresh, err := modelOpen(m.d)
	if err != nil {
		t.Fatalf("the model doesn't open: %v", err)
	}
	same(t, o, fresh)
}
