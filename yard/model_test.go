package yard

import (
	"slices"
	"testing"

	"stackyard/api"
	"stackyard/chain"
	"stackyard/dev"
	"stackyard/image"
	"stackyard/jobs"
	"stackyard/shape"
)

// A yard once more, word by word as the chapter has it, over devices of its own (what it calls of other layers is what J1 to J7 name). It keeps the whole desk, and the chain.
type model struct {
	files []*dev.Dev
	top   *dev.Dev
	shelf *chain.Shelf
	desk  api.Desk
	list  []int
	last  *jobs.Job
}

func modelNew(clusters, places int) (*model, error) {
	h := api.Head{Clusters: clusters, Places: places, Back: -1}
	if err := shape.CheckHead(h); err != nil {
		return nil, err
	}
	m := &model{shelf: new(chain.Shelf), list: []int{0}}
	for range 5 {
		d, _ := dev.New(1 + (clusters+7)/8 + 4*places)
		m.files = append(m.files, d)
	}
	m.top, _ = dev.New(1)
	m.shelf[0], _ = image.Create(m.files[0], h)
	return m, m.write(api.Desk{File: -1})
}

// write a desk.
func (m *model) write(d api.Desk) error {
	s, err := shape.Desk(d)
	if err == nil {
		err = m.top.Write(0, s)
	}
	if err != nil {
		return err
	}
	m.top.Flush()
	m.desk = d
	return nil
}

func modelOpen(files []*dev.Dev, top *dev.Dev) (*model, error) {
	if len(files) != 5 || top == nil {
		return nil, api.ErrBound
	}
	m := &model{shelf: new(chain.Shelf), top: top.Copy()}
	for n, d := range files {
		if d == nil {
			return nil, api.ErrBound
		}
		m.files = append(m.files, d.Copy())
		m.shelf[n], _ = image.Open(m.files[n])
	}
	s, _ := m.top.Read(0)
	var err error
	if m.desk, err = shape.ReadDesk(s); err != nil {
		return nil, err
	}
	if m.list, err = m.shelf.Walk(m.desk.Root); err != nil {
		return nil, err
	}
	if m.desk.Kind == 0 {
		return m, nil
	}
	if m.desk.Kind != 2 || m.desk.File != m.shelf[m.desk.Root].Head().Back {
		m.last, _ = jobs.New(m.shelf, m.desk)
	}
	if m.last == nil {
		m.desk = api.Desk{Root: m.desk.Root, File: -1}
	}
	return m, nil
}

// goes: does a job go?
func (m *model) goes() bool { return m.last != nil && m.last.Status().State < 4 }

func (m *model) used(file int) bool {
	return slices.Contains(m.list, file) || m.goes() && m.last.Status().File == file
}

func (m *model) blank(file int) error { return m.make(file, -1) }

func (m *model) make(file, back int) error {
	if file < 0 || file > 4 {
		return api.ErrBound
	}
	if m.used(file) {
		return api.ErrExist
	}
	h := api.Head{Clusters: m.shelf[m.desk.Root].Head().Clusters, Back: back}
	for m.files[file].Size() >= 1+(h.Clusters+7)/8+4*(h.Places+1) {
		h.Places++
	}
	i, err := image.Create(m.files[file], h)
	if err != nil {
		m.shelf[file] = nil
		return err
	}
	m.shelf[file] = i
	return nil
}

func (m *model) snap(file int) error {
	if m.goes() {
		return api.ErrBusy
	}
	if len(m.list) == 4 {
		return api.ErrFull
	}
	if err := m.make(file, m.desk.Root); err != nil {
		return err
	}
	if err := m.write(api.Desk{Root: file, File: -1}); err != nil {
		return err
	}
	m.list = append([]int{file}, m.list...)
	return nil
}

func (m *model) sectors() int { return 4 * m.shelf[m.desk.Root].Head().Clusters }

// there: are all of these sectors?
func (m *model) there(from, n int) bool {
	return from >= 0 && n >= 0 && from <= m.sectors() && n <= m.sectors()-from
}

// told: the clusters of these sectors are dirty to the job.
func (m *model) told(from, n int) {
	if m.last != nil {
		for s := range n {
			m.last.Dirty((from + s) / 4)
		}
	}
}

func (m *model) put(from int, s string) error {
	if len(s)%16 != 0 || !m.there(from, len(s)/16) {
		return api.ErrBound
	}
	err := m.shelf.Put(m.list, from, s)
	m.told(from, len(s)/16)
	return err
}

func (m *model) wipe(from, n int) error {
	if !m.there(from, n) {
		return api.ErrBound
	}
	err := m.shelf.Wipe(m.list, from, n)
	m.told(from, n)
	return err
}

func (m *model) flush() {
	for _, n := range m.list {
		m.shelf[n].Flush()
	}
}

func (m *model) start(kind, file, rate, burst int) error {
	if m.goes() {
		return api.ErrBusy
	}
	d := api.Desk{Root: m.desk.Root, Kind: kind, File: file, Rate: rate, Burst: burst}
	if kind == 0 {
		return api.ErrBound
	}
	if err := shape.CheckDesk(d); err != nil {
		return err
	}
	j, err := jobs.New(m.shelf, d)
	if err != nil {
		return err
	}
	if err := m.write(d); err != nil {
		return err
	}
	m.last = j
	return j.Pause(false)
}

// without a job: the desk is written so, or the yard's alone is so.
func (m *model) without() {
	d := api.Desk{Root: m.desk.Root, File: -1}
	_ = m.write(d)
	m.desk = d
}

func (m *model) step() (bool, error) {
	if !m.goes() {
		return false, api.ErrNone
	}
	did, err := m.last.Step()
	if m.last.Status().State == 5 {
		m.without()
	}
	if err != nil || m.last.Status().Kind != 2 || m.last.Status().State != 3 {
		return did, err
	}
	if err := m.last.Settle(); err != nil {
		m.without()
		return false, err
	}
	m.list, _ = m.shelf.Walk(m.desk.Root)
	m.last.End(true)
	m.without()
	return true, nil
}

func (m *model) pivot() error {
	if !m.goes() {
		return api.ErrNone
	}
	if m.last.Status().Kind == 2 {
		return api.ErrState
	}
	if err := m.last.Settle(); err != nil {
		return err
	}
	file := m.last.Status().File
	if err := m.write(api.Desk{Root: file, File: -1}); err != nil {
		return err
	}
	m.last.End(true)
	m.list, _ = m.shelf.Walk(file)
	return nil
}

func (m *model) cancel() error {
	if !m.goes() {
		return api.ErrNone
	}
	if err := m.write(api.Desk{Root: m.desk.Root, File: -1}); err != nil {
		return err
	}
	m.last.End(false)
	return nil
}

func (m *model) pause(on bool) error {
	if !m.goes() {
		return api.ErrNone
	}
	return m.last.Pause(on)
}

func (m *model) tick(n int) error {
	if n < 0 || n > 100000 {
		return api.ErrBound
	}
	if m.goes() {
		return m.last.Tick(n)
	}
	return nil
}

func (m *model) status() api.Status {
	if m.last == nil {
		return api.Status{File: -1}
	}
	return m.last.Status()
}

func (m *model) fail(file, n int) error {
	if file == -1 {
		return m.top.Fail(n)
	}
	if file < -1 || file > 4 {
		return api.ErrBound
	}
	return m.files[file].Fail(n)
}

func (m *model) crash(keep [][]bool) (*model, error) {
	all := append(slices.Clone(keep), make([][]bool, 5)...)
	var l []*dev.Dev
	for n, d := range m.files {
		l = append(l, d.Crash(all[n]))
	}
	return modelOpen(l, m.top.Crash(nil))
}

// sameDev: are two devices the same in all that is seen of them? Each pending write is looked at on its own, so that their order is, too.
func sameDev(t testing.TB, file int, d, m *dev.Dev) {
	t.Helper()
	if d.Pending() != m.Pending() || d.Writes() != m.Writes() || d.Size() != m.Size() {
		t.Fatalf("device %d: %d pending, %d writes, %d sectors, not %d, %d, %d", file, d.Pending(), d.Writes(), d.Size(), m.Pending(), m.Writes(), m.Size())
	}
	if d.Bytes() != m.Bytes() {
		t.Fatalf("device %d: flushed %x, not %x", file, d.Bytes(), m.Bytes())
	}
	for n := range d.Pending() {
		keep := make([]bool, n+1)
		keep[n] = true
		if got, want := d.Crash(keep).Bytes(), m.Crash(keep).Bytes(); got != want {
			t.Fatalf("device %d: pending write %d makes %x, not %x", file, n, got, want)
		}
	}
}
