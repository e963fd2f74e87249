package chain

import (
	"strings"
	"testing"

	"stackyard/api"
	"stackyard/dev"
	"stackyard/image"
)

// A shelf once more, word by word as the chapter has it, over images of its own (their calls are what G2 to G4 name).
type model [5]*image.Image

func (m *model) walk(root int) ([]int, error) {
	if root == -1 {
		return nil, nil
	}
	l := []int{}
	for at := root; at != -1; {
		if at < 0 || at > 4 || m[at] == nil {
			return nil, api.ErrNone
		}
		if len(l) >= 5 {
			return nil, api.ErrChain
		}
		if m[at].Head().Clusters != m[root].Head().Clusters {
			return nil, api.ErrShape
		}
		l = append(l, at)
		at = m[at].Head().Back
	}
	return l, nil
}

func (m *model) kind(n, c int) int {
	k, _ := m[n].Kind(c)
	return k
}

func (m *model) found(l []int, c int) int {
	for p := len(l) - 1; p >= 0; p-- {
		above := false
		for _, n := range l[:p] {
			above = above || m.kind(n, c) != api.Absent
		}
		if !above && m.kind(l[p], c) != api.Absent {
			return p
		}
	}
	return -1
}

func (m *model) read(l []int, c int) (string, error) {
	if len(l) == 0 {
		return "", api.ErrNone
	}
	if c < 0 || c >= m[l[0]].Head().Clusters {
		return "", api.ErrBound
	}
	if p := m.found(l, c); p != -1 {
		return m[l[p]].Read(c)
	}
	return noughtCluster, nil
}

// sector of a list that has it.
func (m *model) sector(l []int, at int) string {
	s, _ := m.read(l, at/4)
	return s[at%4*16 : at%4*16+16]
}

// all sectors of a list.
func (m *model) all(l []int) []string {
	var out []string
	for at := range m[l[0]].Head().Clusters * 4 {
		out = append(out, m.sector(l, at))
	}
	return out
}

// in: which sectors of a cluster are in a range?
func in(c, from, n int) []int {
	var out []int
	for at := 4 * c; at < 4*c+4; at++ {
		if from <= at && at-from < n {
			out = append(out, at)
		}
	}
	return out
}

func (m *model) check(l []int, from, n int) error {
	if len(l) == 0 {
		return api.ErrNone
	}
	all := m[l[0]].Head().Clusters * 4
	if from < 0 || n < 0 || from > 1000 || n > 1000 || from+n > all {
		return api.ErrBound
	}
	return nil
}

func (m *model) get(l []int, from, n int) (string, error) {
	if err := m.check(l, from, n); err != nil {
		return "", err
	}
	return strings.Join(m.all(l)[from:from+n], ""), nil
}

func (m *model) put(l []int, from int, text string) error {
	if len(text)%16 != 0 {
		return api.ErrBound
	}
	if err := m.check(l, from, len(text)/16); err != nil {
		return err
	}
	for c := range m[l[0]].Head().Clusters {
		if err := m.putCluster(l, c, from, text); err != nil {
			return err
		}
	}
	return nil
}

func (m *model) putCluster(l []int, c, from int, text string) error {
	hit := in(c, from, len(text)/16)
	if len(hit) == 0 {
		return nil
	}
	if m.kind(l[0], c) == api.Data {
		s := ""
		for _, at := range hit {
			s += text[16*(at-from) : 16*(at-from)+16]
		}
		return m[l[0]].Write(c, hit[0]%4, s)
	}
	var s [4]string
	for k := range s {
		s[k] = m.sector(l, 4*c+k)
	}
	for _, at := range hit {
		s[at%4] = text[16*(at-from) : 16*(at-from)+16]
	}
	return m[l[0]].Fill(c, strings.Join(s[:], ""))
}

func (m *model) wipe(l []int, from, n int) error {
	if err := m.check(l, from, n); err != nil {
		return err
	}
	for c := range m[l[0]].Head().Clusters {
		hit := len(in(c, from, n))
		var err error
		if hit == 4 {
			err = m[l[0]].Clear(c)
		} else if hit > 0 && m.kind(l[0], c) != api.Zero {
			err = m.putCluster(l, c, from, strings.Repeat("\x00", 16*n))
		}
		if err != nil {
			return err
		}
	}
	return nil
}

func (m *model) move(file, c int, text string) error {
	if text == noughtCluster {
		return m[file].Clear(c)
	}
	if m.kind(file, c) == api.Data {
		return m[file].Write(c, 0, text)
	}
	return m[file].Fill(c, text)
}

// sameDev: are two devices the same in all that is seen of them? Each pending write is looked at on its own, so that their order is, too.
func sameDev(t testing.TB, what int, d, m *dev.Dev) {
	t.Helper()
	if d.Pending() != m.Pending() || d.Writes() != m.Writes() || d.Size() != m.Size() {
		t.Fatalf("file %d: %d pending, %d writes, %d sectors, not %d, %d, %d", what, d.Pending(), d.Writes(), d.Size(), m.Pending(), m.Writes(), m.Size())
	}
	if d.Bytes() != m.Bytes() {
		t.Fatalf("file %d: flushed %x, not %x", what, d.Bytes(), m.Bytes())
	}
	for n := range d.Pending() {
		keep := make([]bool, n+1)
		keep[n] = true
		if got, want := d.Crash(keep).Bytes(), m.Crash(keep).Bytes(); got != want {
			t.Fatalf("file %d: pending write %d makes %x, not %x", what, n, got, want)
		}
	}
}

// sameFile: are two images?
func sameFile(t testing.TB, what int, i, m *image.Image) {
	t.Helper()
	if (i == nil) != (m == nil) {
		t.Fatalf("file %d: %v, not %v", what, i, m)
	}
	if i == nil {
		return
	}
	sameDev(t, what, i.Dev(), m.Dev())
	if i.Head() != m.Head() || i.Free() != m.Free() {
		t.Fatalf("file %d: head %v, %d free, not %v, %d", what, i.Head(), i.Free(), m.Head(), m.Free())
	}
	for c := range m.Head().Clusters {
		kind, _ := i.Kind(c)
		text, _ := i.Read(c)
		wantKind, _ := m.Kind(c)
		want, _ := m.Read(c)
		if kind != wantKind || text != want {
			t.Fatalf("file %d, cluster %d: kind %d, %x, not %d, %x", what, c, kind, text, wantKind, want)
		}
	}
}
