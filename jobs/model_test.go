package jobs

import (
	"strings"
	"testing"

	"stackyard/api"
	"stackyard/chain"
	"stackyard/dev"
	"stackyard/image"
)

// A job once more, word by word as the chapter has it, over a shelf of its own (its calls, and those of its images, are what H1 to H4 name).
type model struct {
	s        *chain.Shelf
	desk     api.Desk
	list     []int
	state    int
	left     [40]bool
	clusters int
	tokens   int
	begun    bool // was a cluster moved?
	moved    int  // the last one
}

func modelOf(s *chain.Shelf, d api.Desk) (*model, error) {
	l, err := s.Walk(d.Root)
	if err != nil {
		return nil, err
	}
	if d.Root == -1 {
		return nil, api.ErrNone
	}
	if d.Rate < 0 || d.Rate > 1000 || d.Burst < 0 || d.Burst > 1000 {
		return nil, api.ErrBound
	}
	m := &model{s: s, desk: d, list: l, state: 2, clusters: s[d.Root].Head().Clusters, tokens: d.Burst}
	if err := m.checkKind(); err != nil {
		return nil, err
	}
	for c := range m.clusters {
		m.left[c] = m.wants(c)
	}
	return m, nil
}

func (m *model) checkKind() error {
	file := m.desk.File
	behind := false
	for _, n := range m.list[1:] {
		behind = behind || n == file
	}
	if m.desk.Kind == 1 {
		if file < 0 || file > 4 || m.s[file] == nil {
			return api.ErrNone
		}
		h := m.s[file].Head()
		if behind || file == m.desk.Root || h.Back != -1 || h.Clusters != m.clusters {
			return api.ErrShape
		}
		return nil
	}
	if m.desk.Kind != 2 && m.desk.Kind != 3 {
		return api.ErrBound
	}
	if m.desk.Kind == 2 && file == -1 {
		return nil
	}
	if !behind {
		return api.ErrNone
	}
	return nil
}

// absent: is a cluster absent in that file?
func (m *model) absent(n, c int) bool {
	kind, _ := m.s[n].Kind(c)
	return kind == 0
}

func (m *model) wants(c int) bool {
	if m.desk.Kind == 1 {
		return true
	}
	some := false // has a file above the file something, but for the root?
	for _, n := range m.list {
		if n == m.desk.File {
			break
		}
		if n != m.desk.Root {
			some = some || !m.absent(n, c)
		}
	}
	if m.desk.Kind == 2 {
		return m.absent(m.desk.Root, c) && some
	}
	return !m.absent(m.desk.Root, c) || some
}

func (m *model) count() int {
	n := 0
	for _, is := range m.left {
		if is {
			n++
		}
	}
	return n
}

// turn from running to ready, and back.
func (m *model) turn() {
	if m.state == 1 && m.count() == 0 {
		m.state = 3
	} else if m.state == 3 && m.count() > 0 {
		m.state = 1
	}
}

func (m *model) status() api.Status {
	return api.Status{Kind: m.desk.Kind, File: m.desk.File, State: m.state, Left: m.count()}
}

func (m *model) pause(on bool) error {
	if on && m.state != 1 && m.state != 3 || !on && m.state != 2 {
		return api.ErrState
	}
	m.state = 1
	if on {
		m.state = 2
	}
	m.turn()
	return nil
}

func (m *model) tick(n int) error {
	if n < 0 || n > 100000 {
		return api.ErrBound
	}
	for range n {
		if m.tokens += m.desk.Rate; m.tokens >= m.desk.Burst {
			m.tokens = m.desk.Burst
			break
		}
	}
	return nil
}

func (m *model) dirty(c int) {
	if m.desk.Kind == 2 || m.state > 3 || c < 0 || c >= m.clusters {
		return
	}
	m.left[c] = true
	m.turn()
}

// next of those left: clusters from the one above the last one that was moved on, round to that one.
func (m *model) next() int {
	for k := range m.clusters {
		c := k
		if m.begun {
			c = (m.moved + 1 + k) % m.clusters
		}
		if m.left[c] {
			return c
		}
	}
	return -1
}

func (m *model) step() (bool, error) {
	if m.state != 1 && m.state != 3 {
		return false, api.ErrState
	}
	c := m.next()
	if c == -1 || m.tokens < 4 {
		return false, nil
	}
	m.tokens -= 4
	if m.wants(c) {
		text, err := m.s.Read(m.list, c)
		if err == nil {
			err = m.s.Move([]int{0, m.desk.File, m.desk.Root, m.desk.File}[m.desk.Kind], c, text)
		}
		if err != nil {
			m.state = 5
			return false, err
		}
	}
	m.left[c] = false
	m.moved, m.begun = c, true
	m.turn()
	return true, nil
}

func (m *model) settle() error {
	if m.state != 3 {
		return api.ErrState
	}
	if m.desk.Kind == 2 {
		err := m.s[m.desk.Root].Link(m.desk.File)
		if err != nil {
			m.state = 5
		}
		return err
	}
	l, err := m.s.Walk(m.desk.File)
	for _, n := range l {
		m.s[n].Flush()
	}
	return err
}

func (m *model) end(well bool) {
	m.state = 5
	if well {
		m.state = 4
	}
}

// stood: what a file has of a cluster of Data when it is made. The first sector is another one in each file and cluster.
func stood(file, c int) string {
	return string([]byte{byte('A' + file), byte('0' + c)}) + strings.Repeat("x", 14) + strings.Repeat("0123456789abcdef", 3)
}

// spec of a file: kinds has a letter a cluster, '.' Absent, 'z' Zero, 'D' Data; free: how many places are. No kinds: no file.
type spec struct {
	kinds string
	free  int
	back  int
}

func fileOf(t testing.TB, file int, p spec) *image.Image {
	t.Helper()
	if p.kinds == "" {
		return nil
	}
	h := api.Head{Clusters: len(p.kinds), Places: strings.Count(p.kinds, "D") + p.free, Back: p.back}
	d, err := dev.Of(strings.Repeat("rubbish! rubbish", image.Need(h)))
	if err != nil {
		t.Fatal(err)
	}
	i, err := image.Create(d, h)
	if err != nil {
		t.Fatalf("Create(%v): %v", h, err)
	}
	for c, k := range p.kinds {
		switch k {
		case 'D':
			err = i.Fill(c, stood(file, c))
		case 'z':
			err = i.Clear(c)
		}
		if err != nil {
			t.Fatal(err)
		}
	}
	i.Flush()
	return i
}

func shelfOf(t testing.TB, l ...spec) *chain.Shelf {
	t.Helper()
	s := new(chain.Shelf)
	for n, x := range l {
		s[n] = fileOf(t, n, x)
	}
	return s
}

// sameDev: are two devices the same in all that is seen of them? Each pending write is looked at on its own, so that their order is, too.
func sameDev(t testing.TB, file int, d, m *dev.Dev) {
	t.Helper()
	if d.Pending() != m.Pending() || d.Writes() != m.Writes() || d.Size() != m.Size() {
		t.Fatalf("file %d: %d pending, %d writes, %d sectors, not %d, %d, %d", file, d.Pending(), d.Writes(), d.Size(), m.Pending(), m.Writes(), m.Size())
	}
	if d.Bytes() != m.Bytes() {
		t.Fatalf("file %d: flushed %x, not %x", file, d.Bytes(), m.Bytes())
	}
	for n := range d.Pending() {
		keep := make([]bool, n+1)
		keep[n] = true
		if got, want := d.Crash(keep).Bytes(), m.Crash(keep).Bytes(); got != want {
			t.Fatalf("file %d: pending write %d makes %x, not %x", file, n, got, want)
		}
	}
}

// sameFile: are two images?
func sameFile(t testing.TB, file int, i, m *image.Image) {
	t.Helper()
	if (i == nil) != (m == nil) {
		t.Fatalf("file %d: %v, not %v", file, i, m)
	}
	if i == nil {
		return
	}
	sameDev(t, file, i.Dev(), m.Dev())
	if i.Head() != m.Head() || i.Free() != m.Free() {
		t.Fatalf("file %d: head %v, %d free, not %v, %d", file, i.Head(), i.Free(), m.Head(), m.Free())
	}
	for c := range m.Head().Clusters {
		kind, _ := i.Kind(c)
		text, _ := i.Read(c)
		wantKind, _ := m.Kind(c)
		want, _ := m.Read(c)
		if kind != wantKind || text != want {
			t.Fatalf("file %d, cluster %d: kind %d, %x, not %d, %x", file, c, kind, text, wantKind, want)
		}
	}
}
