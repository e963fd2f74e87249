package jobs

import (
	"math"
	"math/rand"
	"slices"
	"strings"
	"testing"

	"stackyard/api"
	"stackyard/chain"
	"stackyard/image"
)

// far: numbers that no bound lets through.
var far = []int{math.MinInt, math.MinInt + 1, -1 << 32, -256, -2, 1 << 20, 1 << 32, math.MaxInt - 1, math.MaxInt}

var noughtCluster = strings.Repeat("\x00", 64)

// text of so many sectors of a byte.
func text(sectors int, b byte) string { return strings.Repeat(string([]byte{b}), 16*sectors) }

// want: a call answers that error, bare.
func want(t testing.TB, got, want error) {
	t.Helper()
	if got != want {
		t.Fatalf("error %v, not %v", got, want)
	}
}

// mirror, stream and commit of root 0, as fast as may be.
func mirror(file int) api.Desk { return api.Desk{Kind: api.Mirror, File: file, Burst: 1000} }
func stream(file int) api.Desk { return api.Desk{Kind: api.Stream, File: file, Burst: 1000} }
func commit(file int) api.Desk { return api.Desk{Kind: api.Commit, File: file, Burst: 1000} }

// pair: a job, and a model of it, over a shelf each. Each call is made of both, and then all that is seen of both is held against each other.
type pair struct {
	t testing.TB
	s *chain.Shelf
	j *Job
	m *model
}

// pairOver two shelves that are the same; nil, if there is no such job.
func pairOver(t testing.TB, s, twin *chain.Shelf, d api.Desk) (*pair, error) {
	t.Helper()
	j, err := New(s, d)
	m, wantErr := modelOf(twin, d)
	if err != wantErr {
		t.Fatalf("New(%v): error %v, not %v", d, err, wantErr)
	}
	for n := range s {
		sameFile(t, n, s[n], twin[n])
	}
	if err != nil {
		if j != nil {
			t.Fatalf("New(%v): a job with an error", d)
		}
		return nil, err
	}
	p := &pair{t, s, j, m}
	p.same(nil, nil)
	return p, nil
}

func pairOf(t testing.TB, d api.Desk, l ...spec) *pair {
	t.Helper()
	p, err := pairOver(t, shelfOf(t, l...), shelfOf(t, l...), d)
	if err != nil {
		t.Fatalf("New(%v): %v", d, err)
	}
	return p
}

// running pair.
func running(t testing.TB, d api.Desk, l ...spec) *pair {
	t.Helper()
	p := pairOf(t, d, l...)
	want(t, p.pause(false), nil)
	return p
}

func (p *pair) same(err, want error) {
	p.t.Helper()
	if err != want {
		p.t.Fatalf("error %v, not %v", err, want)
	}
	if got, want := p.j.Status(), p.m.status(); got != want {
		p.t.Fatalf("Status() = %v, not %v", got, want)
	}
	if got, want := p.j.Goes(), p.m.state < 4; got != want {
		p.t.Fatalf("Goes() = %v, not %v", got, want)
	}
	for n := range p.s {
		sameFile(p.t, n, p.s[n], p.m.s[n])
	}
}

func (p *pair) pause(on bool) error {
	p.t.Helper()
	err := p.j.Pause(on)
	p.same(err, p.m.pause(on))
	return err
}

func (p *pair) tick(n int) error {
	p.t.Helper()
	err := p.j.Tick(n)
	p.same(err, p.m.tick(n))
	return err
}

func (p *pair) dirty(c int) {
	p.t.Helper()
	p.j.Dirty(c)
	p.m.dirty(c)
	p.same(nil, nil)
}

func (p *pair) step() (bool, error) {
	p.t.Helper()
	did, err := p.j.Step()
	wantDid, wantErr := p.m.step()
	p.same(err, wantErr)
	if did != wantDid {
		p.t.Fatalf("Step() = %v, not %v", did, wantDid)
	}
	return did, err
}

func (p *pair) settle() error {
	p.t.Helper()
	err := p.j.Settle()
	p.same(err, p.m.settle())
	return err
}

func (p *pair) end(well bool) {
	p.t.Helper()
	p.j.End(well)
	p.m.end(well)
	p.same(nil, nil)
}

// put what the guest writes into the root; the job is told of it.
func (p *pair) put(from int, s string) error {
	p.t.Helper()
	err := p.s.Put(p.m.list, from, s)
	want(p.t, p.m.s.Put(p.m.list, from, s), err)
	for c := from / 4; 4*c < from+len(s)/16; c++ {
		p.dirty(c)
	}
	return err
}

// wipe a cluster, as put.
func (p *pair) wipe(c int) error {
	p.t.Helper()
	err := p.s.Wipe(p.m.list, 4*c, 4)
	want(p.t, p.m.s.Wipe(p.m.list, 4*c, 4), err)
	p.dirty(c)
	return err
}

// fail: the write to a file behind n more fails.
func (p *pair) fail(file, n int) {
	p.t.Helper()
	want(p.t, p.s[file].Dev().Fail(n), nil)
	want(p.t, p.m.s[file].Dev().Fail(n), nil)
}

// of both files of a number something is done.
func (p *pair) of(file int, do func(*image.Image) error) {
	p.t.Helper()
	want(p.t, do(p.s[file]), nil)
	want(p.t, do(p.m.s[file]), nil)
	p.same(nil, nil)
}

// wantStatus: the state, and how many are left.
func (p *pair) wantStatus(state, left int) {
	p.t.Helper()
	s := p.j.Status()
	if s.State != state || s.Left != left || s.Kind != p.m.desk.Kind || s.File != p.m.desk.File {
		p.t.Fatalf("Status() = %v, not state %d, %d left", s, state, left)
	}
}

// wantStep: a step answers true, or false.
func (p *pair) wantStep(want bool) {
	p.t.Helper()
	if did, err := p.step(); did != want || err != nil {
		p.t.Fatalf("Step() = %v, %v, not %v", did, err, want)
	}
}

// wantStepError: a step answers an error; the job is aborted by it, what it was at is still left.
func (p *pair) wantStepError(want error, left int) {
	p.t.Helper()
	if did, err := p.step(); did || err != want {
		p.t.Fatalf("Step() = %v, %v, not %v", did, err, want)
	}
	p.wantStatus(api.Aborted, left)
	if p.j.Goes() {
		p.t.Fatal("it goes")
	}
}

// wantFile: what stands in a file: kinds as spec's, and of each Data in order its bytes.
func (p *pair) wantFile(file int, kinds string, data ...string) {
	p.t.Helper()
	i := p.s[file]
	for c, letter := range kinds {
		kind, err := i.Kind(c)
		if err != nil || kind != strings.IndexRune(".zD", letter) {
			p.t.Fatalf("file %d: Kind(%d) = %d, %v, not that of %c", file, c, kind, err, letter)
		}
		if letter != 'D' {
			continue
		}
		if s, err := i.Read(c); s != data[0] || err != nil {
			p.t.Fatalf("file %d: Read(%d) = %x, %v, not %x", file, c, s, err, data[0])
		}
		data = data[1:]
	}
	if len(data) != 0 {
		p.t.Fatalf("file %d: %d clusters of data more than kinds has", file, len(data))
	}
}

// wantPending: how many writes are pending on each file's device, from file 0 on.
func (p *pair) wantPending(l ...int) {
	p.t.Helper()
	for n, want := range l {
		if got := p.s[n].Dev().Pending(); got != want {
			p.t.Fatalf("file %d: %d pending, not %d", n, got, want)
		}
	}
}

// seen: all that is seen from a file down.
func (p *pair) seen(root int) string {
	p.t.Helper()
	l, err := p.s.Walk(root)
	want(p.t, err, nil)
	s, err := p.s.Get(l, 0, 4*p.m.clusters)
	want(p.t, err, nil)
	return s
}

// through: as many steps as are left, and it is ready.
func (p *pair) through() {
	p.t.Helper()
	for n := p.j.Status().Left; n > 0; n-- {
		p.wantStatus(api.Running, n)
		p.wantStep(true)
	}
	p.wantStatus(api.Ready, 0)
}

// three files one above the other, of the same clusters in each.
func three(a, b, c string) []spec { return []spec{{a, 3, 1}, {b, 3, 2}, {c, 3, -1}} }

func TestH1AJobIsPaused(t *testing.T) {
	for _, x := range []struct {
		desk api.Desk
		left int
	}{
		{mirror(4), 4}, {stream(-1), 2}, {stream(2), 1}, {stream(1), 0}, {commit(2), 3}, {commit(1), 2},
	} {
		p := pairOf(t, x.desk, append(three("D.z.", ".DD.", "DD.D"), spec{}, spec{"....", 4, -1})...)
		p.wantStatus(api.Paused, x.left)
		if !p.j.Goes() {
			t.Errorf("%v does not go", x.desk)
		}
		_, err := p.step()
		want(t, err, api.ErrState)
		want(t, p.settle(), api.ErrState)
	}
}

func TestH1AnyRoot(t *testing.T) {
	l := []spec{{"D.", 2, -1}, {"..", 2, -1}, {".D", 2, 0}, {"..", 2, 2}, {"..", 2, -1}}
	for _, d := range []api.Desk{{Root: 3, Kind: api.Commit, File: 0, Burst: 8}, {Root: 3, Kind: api.Commit, File: 2, Burst: 8}, {Root: 3, Kind: api.Stream, File: -1, Burst: 8}, {Root: 2, Kind: api.Stream, File: -1, Burst: 8}, {Root: 3, Kind: api.Mirror, File: 4, Burst: 8}, {Root: 0, Kind: api.Mirror, File: 1, Burst: 8}} {
		running(t, d, l...).through()
	}
}

func TestH1WalksErrorFirst(t *testing.T) {
	for _, x := range []struct {
		want  error
		root  int
		files []spec
	}{
		{api.ErrNone, 0, nil},
		{api.ErrNone, 5, []spec{{".", 0, -1}}},
		{api.ErrNone, -2, []spec{{".", 0, -1}}},
		{api.ErrNone, 0, []spec{{".", 0, 1}}},
		{api.ErrChain, 0, []spec{{".", 0, 1}, {".", 0, 0}}},
		{api.ErrChain, 3, []spec{{}, {}, {}, {".", 0, 3}}},
		{api.ErrShape, 0, []spec{{".", 0, 1}, {"..", 0, -1}}},
	} {
		for _, rest := range []api.Desk{{Kind: 7, File: 9, Rate: -1, Burst: 1001}, mirror(4), stream(-1), commit(1)} {
			rest.Root = x.root
			_, err := pairOver(t, shelfOf(t, x.files...), shelfOf(t, x.files...), rest)
			want(t, err, x.want)
		}
	}
}

func TestH1NoRoot(t *testing.T) {
	for _, d := range []api.Desk{{Kind: 7, File: 9, Rate: -1, Burst: 1001}, mirror(0), mirror(1), stream(-1), commit(0)} {
		d.Root = -1
		_, err := pairOver(t, shelfOf(t, spec{".", 0, -1}), shelfOf(t, spec{".", 0, -1}), d)
		want(t, err, api.ErrNone)
	}
}

func TestH1TheBucketsError(t *testing.T) {
	s := func() *chain.Shelf { return shelfOf(t, spec{".", 0, 1}, spec{".", 0, -1}, spec{".", 0, -1}) }
	for _, d := range []api.Desk{{Kind: api.Mirror, File: 3}, mirror(1), mirror(2), stream(-1), stream(4), commit(1), commit(0), {Kind: 7, File: 9}} {
		for _, n := range append([]int{-1, 1001}, far...) {
			rate, burst := d, d
			rate.Rate, burst.Burst = n, n
			_, err := pairOver(t, s(), s(), rate)
			want(t, err, api.ErrBound)
			_, err = pairOver(t, s(), s(), burst)
			want(t, err, api.ErrBound)
		}
	}
	for _, n := range []int{0, 1, 999, 1000} {
		_, err := pairOver(t, s(), s(), api.Desk{Kind: api.Commit, File: 1, Rate: n, Burst: 1000 - n})
		want(t, err, nil)
	}
}

func TestH1AMirrorsFile(t *testing.T) {
	l := []spec{{"..", 0, 1}, {"..", 0, -1}, {"..", 0, 1}, {"...", 0, -1}, {"..", 0, -1}}
	s := func() *chain.Shelf { return shelfOf(t, l...) }
	for file, e := range map[int]error{-1: api.ErrNone, 0: api.ErrShape, 1: api.ErrShape, 2: api.ErrShape, 3: api.ErrShape, 4: nil, 5: api.ErrNone} {
		_, err := pairOver(t, s(), s(), mirror(file))
		want(t, err, e)
	}
	for _, file := range far {
		_, err := pairOver(t, s(), s(), mirror(file))
		want(t, err, api.ErrNone)
	}
	one, two := s(), s()
	one[4], two[4] = nil, nil
	_, err := pairOver(t, one, two, mirror(4))
	want(t, err, api.ErrNone)
}

func TestH1FilesOfStreamsAndCommits(t *testing.T) {
	l := []spec{{"..", 0, 3}, {"..", 0, -1}, {}, {"..", 0, 1}, {"..", 0, -1}}
	s := func() *chain.Shelf { return shelfOf(t, l...) }
	for _, file := range append([]int{-1, 0, 1, 2, 3, 4, 5}, far...) {
		var e error = api.ErrNone
		if file == 1 || file == 3 {
			e = nil
		}
		_, err := pairOver(t, s(), s(), commit(file))
		want(t, err, e)
		if file == -1 {
			e = nil
		}
		_, err = pairOver(t, s(), s(), stream(file))
		want(t, err, e)
	}
	one := func() *chain.Shelf { return shelfOf(t, spec{"D.", 0, -1}) }
	p, err := pairOver(t, one(), one(), stream(-1)) // of a list of one file: nothing is below it
	want(t, err, nil)
	p.wantStatus(api.Paused, 0)
	_, err = pairOver(t, one(), one(), commit(0))
	want(t, err, api.ErrNone)
}

func TestH1NoSuchKind(t *testing.T) {
	s := func() *chain.Shelf { return shelfOf(t, spec{".", 0, 1}, spec{".", 0, -1}, spec{".", 0, -1}) }
	for _, kind := range append([]int{-1, 0, 4, 5}, far...) {
		for _, file := range append([]int{-1, 0, 1, 2, 3, 5}, far...) {
			_, err := pairOver(t, s(), s(), api.Desk{Kind: kind, File: file, Burst: 8})
			want(t, err, api.ErrBound)
		}
	}
}

func TestH1TheShelfIsKept(t *testing.T) {
	p := running(t, mirror(1), spec{"D.", 1, -1}, spec{"..", 2, -1})
	p.wantStep(true)
	later := spec{"DD", 0, -1}
	p.s[1], p.m.s[1] = fileOf(t, 1, later), fileOf(t, 1, later)
	p.wantStep(true) // into the file that is on the shelf now
	p.wantFile(1, "Dz", stood(1, 0))
}

// allKinds of three files: 27 clusters, each of the three kinds in each of the files.
func allKinds() (l [3]string) {
	for n := range 27 {
		for file, by := range []int{1, 3, 9} {
			l[file] += string(".zD"[n/by%3])
		}
	}
	return l
}

// TestH2WhatIsWanted: of all kinds of a cluster in three files it is said here once more what is to be moved; the rest stays.
func TestH2WhatIsWanted(t *testing.T) {
	all := allKinds()
	for _, x := range []struct {
		desk  api.Desk
		wants func(a, b, c byte) bool
	}{
		{mirror(4), func(a, b, c byte) bool { return true }},
		{stream(-1), func(a, b, c byte) bool { return a == '.' && (b != '.' || c != '.') }},
		{stream(2), func(a, b, c byte) bool { return a == '.' && b != '.' }},
		{stream(1), func(a, b, c byte) bool { return false }},
		{commit(2), func(a, b, c byte) bool { return a != '.' || b != '.' }},
		{commit(1), func(a, b, c byte) bool { return a != '.' }},
	} {
		p := running(t, x.desk, spec{all[0], 27, 1}, spec{all[1], 18, 2}, spec{all[2], 18, -1}, spec{}, spec{strings.Repeat(".", 27), 27, -1})
		into := []int{0, x.desk.File, 0, x.desk.File}[x.desk.Kind]
		var moved, old []string
		left := 0
		for c := range 27 {
			old = append(old, show(p.s[into], c))
			moved = append(moved, old[c])
			if x.wants(all[0][c], all[1][c], all[2][c]) {
				left++
				moved[c] = showText(p.seen(0)[64*c : 64*c+64])
			}
		}
		if got := p.j.Status().Left; got != left {
			t.Errorf("%v: %d are left, not %d", x.desk, got, left)
		}
		before := p.seen(0)
		p.through()
		for c := range 27 {
			if got := show(p.s[into], c); got != moved[c] {
				t.Errorf("%v: cluster %d (%c%c%c): %s, not %s", x.desk, c, all[0][c], all[1][c], all[2][c], got, moved[c])
			}
		}
		if p.seen(0) != before {
			t.Errorf("%v: something else is seen", x.desk)
		}
	}
}

// show what a file has of a cluster.
func show(i *image.Image, c int) string {
	if kind, _ := i.Kind(c); kind == api.Absent {
		return "absent"
	}
	s, _ := i.Read(c)
	return showText(s)
}

func showText(s string) string {
	if s == noughtCluster {
		return "noughts"
	}
	return s
}

func TestH2ReadyAtOnce(t *testing.T) {
	p := pairOf(t, stream(1), three("..", "..", "D.")...)
	p.wantStatus(api.Paused, 0)
	want(t, p.pause(false), nil)
	p.wantStatus(api.Ready, 0)

	p = pairOf(t, commit(1), three("D.", "..", "..")...)
	want(t, p.pause(false), nil)
	p.wantStatus(api.Running, 1)
	p.wantStep(true)
	p.wantStatus(api.Ready, 0)
	p.dirty(1)
	p.wantStatus(api.Running, 1)
	want(t, p.settle(), api.ErrState)
	p.wantStep(true)
	p.wantStatus(api.Ready, 0)
	want(t, p.pause(true), nil)
	p.wantStatus(api.Paused, 0)
	p.dirty(0)
	p.wantStatus(api.Paused, 1)
	want(t, p.pause(false), nil)
	p.wantStatus(api.Running, 1)
}

// inState: a mirror's pair, brought there; of one cluster that is left, but for Ready.
func inState(t *testing.T, state int) *pair {
	p := pairOf(t, mirror(1), spec{"D", 0, -1}, spec{".", 1, -1})
	if state != api.Paused {
		want(t, p.pause(false), nil)
	}
	switch state {
	case api.Ready:
		p.wantStep(true)
	case api.Concluded, api.Aborted:
		p.end(state == api.Concluded)
	}
	if got := p.j.Status().State; got != state {
		t.Fatalf("state %d, not %d", got, state)
	}
	return p
}

var states = []int{api.Running, api.Paused, api.Ready, api.Concluded, api.Aborted}

func TestH2PauseInEachState(t *testing.T) {
	for _, state := range states {
		p := inState(t, state)
		left := p.j.Status().Left
		if state == api.Running || state == api.Ready {
			want(t, p.pause(true), nil)
			p.wantStatus(api.Paused, left)
		} else {
			want(t, p.pause(true), api.ErrState)
			p.wantStatus(state, left)
		}
		p = inState(t, state)
		if state == api.Paused {
			want(t, p.pause(false), nil)
			p.wantStatus(api.Running, left)
		} else {
			want(t, p.pause(false), api.ErrState)
			p.wantStatus(state, left)
		}
	}
}

func TestH2GoesInEachState(t *testing.T) {
	for _, state := range states {
		if got := inState(t, state).j.Goes(); got != (state == api.Running || state == api.Paused || state == api.Ready) {
			t.Errorf("Goes() in state %d = %v", state, got)
		}
	}
}

func TestH2TickInEachState(t *testing.T) {
	for _, state := range states {
		p := inState(t, state)
		for _, n := range append([]int{-1, 100001}, far...) {
			want(t, p.tick(n), api.ErrBound)
		}
		want(t, p.tick(0), nil)
		want(t, p.tick(100000), nil)
	}
}

func TestH2TickFillsTheBucket(t *testing.T) {
	d := api.Desk{Kind: api.Mirror, File: 1, Rate: 3, Burst: 9}
	p := pairOf(t, d, spec{"DDDDDDDD", 0, -1}, spec{"........", 8, -1})
	want(t, p.tick(100000), nil) // it is full: no more than its burst
	want(t, p.pause(false), nil)
	for n, did := range []bool{true, true, false, false} { // 9 tokens; 1 stays
		if n == 3 {
			want(t, p.tick(0), nil)
		}
		p.wantStep(did)
	}
	want(t, p.tick(1), nil)
	p.wantStep(true) // 4
	want(t, p.pause(true), nil)
	want(t, p.tick(1), nil) // while it is paused, too: 3
	want(t, p.pause(false), nil)
	p.wantStep(false)
	want(t, p.tick(-1), api.ErrBound)
	p.wantStep(false)
	want(t, p.tick(1), nil) // 6
	p.wantStep(true)
	p.wantStep(false)
	want(t, p.tick(9), nil) // 9
	p.wantStep(true)
	p.wantStep(true)
	p.wantStep(false)
	p.wantStatus(api.Running, 2)
}

func TestH2DirtyInEachState(t *testing.T) {
	for _, state := range states {
		p := inState(t, state)
		left := p.j.Status().Left
		for _, c := range append([]int{-1, 1, 32, 64}, far...) {
			p.dirty(c)
			p.wantStatus(state, left)
		}
		p.dirty(0)
		if state == api.Ready {
			p.wantStatus(api.Running, 1)
		} else {
			p.wantStatus(state, left)
		}
	}
	for _, well := range []bool{true, false} { // with none left: what ended stays so
		p := inState(t, api.Ready)
		p.end(well)
		p.dirty(0)
		if p.j.Status().Left != 0 {
			t.Errorf("left behind the end: %v", p.j.Status())
		}
	}
}

func TestH2DirtyOfEachKind(t *testing.T) {
	for _, x := range []struct {
		desk api.Desk
		left int
	}{
		{mirror(4), 1}, {commit(1), 1}, {commit(2), 1}, {stream(-1), 0}, {stream(2), 0},
	} {
		p := running(t, x.desk, append(three("D..", ".D.", "D.z"), spec{}, spec{"...", 3, -1})...)
		p.through()
		p.dirty(1)
		if got := p.j.Status().Left; got != x.left {
			t.Errorf("%v: %d are left, not %d", x.desk, got, x.left)
		}
		p.dirty(1)
		if got := p.j.Status().Left; got != x.left {
			t.Errorf("%v: %d are left, not %d, if it is dirty twice", x.desk, got, x.left)
		}
	}
}

func TestH3StepInEachState(t *testing.T) {
	for _, state := range states {
		did, err := inState(t, state).step()
		switch state {
		case api.Running:
			if !did || err != nil {
				t.Errorf("Step() = %v, %v", did, err)
			}
		case api.Ready:
			if did || err != nil {
				t.Errorf("Step() of one that is ready = %v, %v", did, err)
			}
		default:
			if did || err != api.ErrState {
				t.Errorf("Step() in state %d = %v, %v, not ErrState", state, did, err)
			}
		}
	}
}

func TestH3NoTokens(t *testing.T) {
	for burst := range 4 {
		p := running(t, api.Desk{Kind: api.Mirror, File: 1, Rate: 1000, Burst: burst}, spec{"D", 0, -1}, spec{".", 1, -1})
		for range 3 {
			p.wantStep(false)
			p.wantStatus(api.Running, 1)
			want(t, p.tick(1000), nil)
		}
		p.wantFile(1, ".")
	}
	p := running(t, api.Desk{Kind: api.Mirror, File: 1, Burst: 7}, spec{"DD", 0, -1}, spec{"..", 2, -1})
	p.wantStep(true)
	p.wantStep(false)
	want(t, p.tick(100000), nil) // of rate 0 none come
	p.wantStep(false)
	p.wantFile(1, "D.", stood(0, 0))
}

func TestH3OneThatIsReadyTakesNoTokens(t *testing.T) {
	p := running(t, api.Desk{Kind: api.Mirror, File: 1, Burst: 8}, spec{"D", 0, -1}, spec{".", 1, -1})
	p.wantStep(true)
	for range 5 {
		p.wantStep(false)
	}
	p.dirty(0)
	p.wantStep(true)
	p.dirty(0)
	p.wantStep(false)
}

func TestH3OneThatIsPausedTakesNoTokens(t *testing.T) {
	p := pairOf(t, api.Desk{Kind: api.Mirror, File: 1, Burst: 4}, spec{"D", 0, -1}, spec{".", 1, -1})
	for range 3 {
		_, err := p.step()
		want(t, err, api.ErrState)
	}
	want(t, p.pause(false), nil)
	p.wantStep(true)
}

// stepOf: which cluster of a mirror's file does a step change?
func stepOf(p *pair) int {
	p.t.Helper()
	var before []string
	file := p.s[p.m.desk.File]
	for c := range p.m.clusters {
		before = append(before, show(file, c))
	}
	p.wantStep(true)
	for c, s := range before {
		if show(file, c) != s {
			return c
		}
	}
	return -1
}

func TestH3GoingRound(t *testing.T) {
	p := running(t, mirror(1), spec{"DDDDD", 0, -1}, spec{".....", 5, -1})
	fresh := byte('a')
	write := func(c int) {
		t.Helper()
		want(t, p.put(4*c+1, text(1, fresh)), nil)
		fresh++
	}
	var order []int
	for n := range 12 {
		switch n {
		case 2:
			write(0) // 0 and 1 are through: behind the others it is 0's turn again
			write(2)
		case 7:
			write(0) // the same one that was the last
			write(4)
		case 9:
			write(3)
			write(1)
			write(4)
		}
		if p.j.Status().Left > 0 {
			order = append(order, stepOf(p))
		}
	}
	if w := []int{0, 1, 2, 3, 4, 0, 4, 0, 1, 3, 4}; !slices.Equal(order, w) {
		t.Errorf("the clusters' order is %v, not %v", order, w)
	}
	if p.seen(1) != p.seen(0) {
		t.Error("the file is not what the list is")
	}
}

func TestH3AtFirstTheLeastOfAll(t *testing.T) {
	p := running(t, commit(1), spec{"..D.D", 3, 1}, spec{".....", 5, -1})
	want(t, p.put(4, text(1, 'a')), nil)
	p.wantStep(true)
	p.wantFile(1, ".D...", text(1, 'a')+text(3, 0))
}

func TestH3TheLastOneAgain(t *testing.T) {
	p := running(t, mirror(1), spec{"DDD", 0, -1}, spec{"...", 3, -1})
	p.through()
	for c := range 3 {
		for n := range 3 {
			want(t, p.put(4*c, text(1, byte('a'+n))), nil)
			if got := stepOf(p); got != c {
				t.Errorf("cluster %d, not %d", got, c)
			}
		}
	}
}

// TestH3AStepWithoutAMove: what is left, but is not wanted any more, is left no more; its tokens are taken.
func TestH3AStepWithoutAMove(t *testing.T) {
	d := api.Desk{Kind: api.Stream, File: -1, Burst: 8}
	p := running(t, d, spec{"...", 3, 1}, spec{"DDD", 0, -1})
	want(t, p.put(0, text(4, 'a')), nil)
	want(t, p.wipe(1), nil)
	p.wantStatus(api.Running, 3)
	writes := p.s[0].Dev().Writes()
	p.wantStep(true)
	p.wantStep(true)
	p.wantStatus(api.Running, 1)
	p.wantStep(false)
	p.wantFile(0, "Dz.", text(4, 'a'))
	if got := p.s[0].Dev().Writes(); got != writes {
		t.Errorf("%d writes, where none was needed", got-writes)
	}

	p = running(t, api.Desk{Kind: api.Commit, File: 1, Burst: 4}, spec{"..", 1, 1}, spec{"D.", 0, 2}, spec{".D", 0, -1})
	p.dirty(1) // but nobody wrote it
	p.wantStatus(api.Running, 1)
	p.wantStep(true)
	p.wantStatus(api.Ready, 0)
	p.wantFile(1, "D.", stood(1, 0))
	p.dirty(0)
	p.wantStep(false)
}

// TestH3TheTurnGoesOnWithoutAMove: a step whose cluster is not wanted is a step all the same: it goes on above it.
func TestH3TheTurnGoesOnWithoutAMove(t *testing.T) {
	p := running(t, commit(1), spec{"....D", 3, 1}, spec{".....", 5, -1})
	p.dirty(2) // but nobody wrote it
	p.wantStep(true)
	want(t, p.put(4, text(4, 'a')), nil)
	p.wantStep(true)
	p.wantFile(1, "....D", stood(0, 4))
	p.wantStep(true)
	p.wantFile(1, ".D..D", text(4, 'a'), stood(0, 4))
}

func TestH3AMirrorMovesWhatIsSeen(t *testing.T) {
	p := running(t, mirror(4), append(three("D.z..D", ".D.D..", "DDDz.."), spec{}, spec{"DDDDzz", 2, -1})...)
	p.through()
	p.wantFile(4, "DDzDzD", stood(0, 0), stood(1, 1), stood(1, 3), stood(0, 5))
	p.wantFile(0, "D.z..D", stood(0, 0), stood(0, 5))
	if p.seen(4) != p.seen(0) {
		t.Error("the file is not what the list is")
	}
}

func TestH3AStreamMovesIntoTheRoot(t *testing.T) {
	p := running(t, stream(2), three("D.z...", "DDDz..", "DDDDD.")...)
	p.through()
	p.wantFile(0, "DDzz..", stood(0, 0), stood(1, 1))
	p.wantFile(1, "DDDz..", stood(1, 0), stood(1, 1), stood(1, 2))
	p = running(t, stream(-1), three("D.z...", "DDDz..", "DDDDD.")...)
	p.through()
	p.wantFile(0, "DDzzD.", stood(0, 0), stood(1, 1), stood(2, 4))
}

func TestH3ACommitMovesIntoItsFile(t *testing.T) {
	p := running(t, commit(2), three("D.z...", "DD.z..", "DDDDD.")...)
	p.through()
	p.wantFile(2, "DDzzD.", stood(0, 0), stood(1, 1), stood(2, 4))
	p.wantFile(1, "DD.z..", stood(1, 0), stood(1, 1))
	p = running(t, commit(1), three("D.z...", "DD.z..", "DDDDD.")...)
	p.through()
	p.wantFile(1, "DDzz..", stood(0, 0), stood(1, 1))
	p.wantFile(2, "DDDDD.", stood(2, 0), stood(2, 1), stood(2, 2), stood(2, 3), stood(2, 4))
}

func TestH3AFullFile(t *testing.T) {
	p := running(t, mirror(1), spec{"DzDD", 0, -1}, spec{"....", 1, -1})
	p.wantStep(true)
	p.wantStep(true)
	p.wantStepError(api.ErrFull, 2)
	p.wantFile(1, "Dz..", stood(0, 0))

	p = running(t, stream(-1), spec{"..", 0, 1}, spec{".D", 0, -1})
	p.wantStepError(api.ErrFull, 1)
	p.wantFile(0, "..")

	p = running(t, commit(1), spec{"zD", 0, 1}, spec{"D.", 0, -1})
	p.wantStep(true)
	p.wantStepError(api.ErrFull, 1) // the place is held till a flush
	p.wantFile(1, "z.")
}

// TestH3TheDeviceFails: at each write of each step: the error is answered, the job is aborted, what the guest reads stays.
func TestH3TheDeviceFails(t *testing.T) {
	for _, d := range []api.Desk{mirror(4), stream(-1), stream(2), commit(1), commit(2)} {
		into := []int{0, d.File, 0, d.File}[d.Kind]
		failed := false
		for n := 0; ; n++ {
			p := running(t, d, append(three("D.z.", ".DD.", "zD.D"), spec{}, spec{"zD.D", 4, -1})...)
			before := p.seen(0)
			p.fail(into, n)
			for p.j.Status().State == api.Running {
				left := p.j.Status().Left
				did, err := p.step()
				if err != nil {
					want(t, err, api.ErrIO)
					p.wantStatus(api.Aborted, left)
					if did || p.j.Goes() {
						t.Fatalf("Step() = %v with an error; it goes: %v", did, p.j.Goes())
					}
					break
				}
			}
			if p.seen(0) != before {
				t.Fatalf("%v, write %d fails: something else is seen", d, n)
			}
			if p.j.Status().State == api.Ready {
				break
			}
			failed = true
			_, err := p.step()
			want(t, err, api.ErrState)
		}
		if !failed {
			t.Errorf("%v: no write failed", d)
		}
	}
}

func TestH4SettleInEachState(t *testing.T) {
	for _, state := range states {
		p := inState(t, state)
		if state == api.Ready {
			want(t, p.settle(), nil)
			p.wantStatus(api.Ready, 0)
			want(t, p.settle(), nil) // and once more
			continue
		}
		left := p.j.Status().Left
		want(t, p.settle(), api.ErrState)
		p.wantStatus(state, left)
	}
	for _, end := range []bool{true, false} { // with none left, too
		p := inState(t, api.Ready)
		p.end(end)
		want(t, p.settle(), api.ErrState)
	}
	p := inState(t, api.Ready)
	want(t, p.pause(true), nil)
	want(t, p.settle(), api.ErrState)
}

// pendingOn: on each file's device a write is pending.
func pendingOn(p *pair, files ...int) {
	for _, n := range files {
		p.of(n, func(i *image.Image) error {
			s, err := i.Dev().Read(0)
			if err != nil {
				return err
			}
			i.Flush()
			return i.Dev().Write(0, s)
		})
	}
}

func TestH4AMirrorsFileIsFlushed(t *testing.T) {
	p := running(t, mirror(3), append(three("D.", ".D", "zz"), spec{"DD", 1, -1})...)
	p.through()
	pendingOn(p, 0, 1, 2)
	if p.s[3].Dev().Pending() == 0 {
		t.Fatal("nothing is pending")
	}
	p.wantPending(1, 1, 1)
	want(t, p.settle(), nil)
	p.wantPending(1, 1, 1, 0)
	p.wantStatus(api.Ready, 0)
	i, err := image.Open(p.s[3].Dev().Crash(nil))
	want(t, err, nil)
	for c := range 2 {
		s, err := i.Read(c)
		if s != p.seen(0)[64*c:64*c+64] || err != nil {
			t.Errorf("behind a crash cluster %d is %x, %v", c, s, err)
		}
	}
}

func TestH4ACommitsListIsFlushed(t *testing.T) {
	for file, l := range map[int][]int{1: {1, 0, 0, 0}, 2: {1, 1, 0, 0}, 3: {1, 1, 1, 0}} {
		p := running(t, commit(file), spec{"D.", 2, 1}, spec{".D", 2, 2}, spec{"zz", 2, 3}, spec{"DD", 2, -1}, spec{"..", 1, -1})
		p.through()
		pendingOn(p, 0, 1, 2, 3, 4)
		want(t, p.settle(), nil)
		p.wantPending(append(l, 1)...)
		p.wantStatus(api.Ready, 0)
	}
}

func TestH4AFlushFreesWhatIsHeld(t *testing.T) {
	p := running(t, mirror(1), spec{"z", 0, -1}, spec{"D", 0, -1})
	p.through()
	if got := p.s[1].Free(); got != 0 {
		t.Fatalf("%d are free", got)
	}
	want(t, p.settle(), nil)
	if got := p.s[1].Free(); got != 1 {
		t.Errorf("%d are free", got)
	}
}

func TestH4AStreamsRootIsLinked(t *testing.T) {
	for file, l := range map[int][]int{-1: {0}, 1: {0, 1, 2, 3}, 2: {0, 2, 3}, 3: {0, 3}} {
		p := running(t, stream(file), spec{"D...", 3, 1}, spec{".D..", 2, 2}, spec{"zz.D", 2, 3}, spec{"DDD.", 2, -1})
		p.through()
		before := p.seen(0)
		pendingOn(p, 0, 1, 2, 3)
		want(t, p.settle(), nil)
		p.wantPending(0, 1, 1, 1) // the link flushes the root; the others stay as they are
		if got, err := p.s.Walk(0); !slices.Equal(got, l) || err != nil {
			t.Errorf("stream to %d: the list is %v, %v, not %v", file, got, err, l)
		}
		if got := p.s[0].Head().Back; got != file {
			t.Errorf("stream to %d: the root's back is %d", file, got)
		}
		p.wantStatus(api.Ready, 0)
		if file == -1 { // what is seen from the root hangs on it alone
			p.s[1], p.s[2], p.s[3] = nil, nil, nil
		}
		if got := p.seen(0); got != before {
			t.Errorf("stream to %d: something else is seen", file)
		}
	}
}

func TestH4ALinkThatFails(t *testing.T) {
	p := running(t, stream(-1), spec{"..", 2, 1}, spec{"DD", 2, -1})
	p.through()
	before := p.seen(0)
	p.fail(0, 0)
	want(t, p.settle(), api.ErrIO)
	p.wantStatus(api.Aborted, 0)
	if p.j.Goes() || p.s[0].Head().Back != 1 || p.seen(0) != before {
		t.Errorf("it goes: %v; the root's head is %v", p.j.Goes(), p.s[0].Head())
	}
	want(t, p.settle(), api.ErrState)
}

func TestH4WalksErrorOfTheFile(t *testing.T) {
	for back, e := range map[int]error{1: api.ErrChain, 2: api.ErrNone, 3: api.ErrShape, 4: nil} {
		l := []spec{{"DD", 0, -1}, {"DD", 0, -1}, {}, {"...", 1, -1}, {"..", 1, -1}}
		p := running(t, mirror(1), l...)
		p.through()
		p.of(1, func(i *image.Image) error { return i.Link(back) }) // it isn't in the list: anybody may
		pendingOn(p, 0, 1, 3, 4)
		want(t, p.settle(), e)
		p.wantStatus(api.Ready, 0)
		pending := 1
		if e == nil {
			pending = 0
		}
		for n, w := range map[int]int{0: 1, 1: pending, 3: 1, 4: pending} {
			if got := p.s[n].Dev().Pending(); got != w {
				t.Errorf("back %d, file %d: %d pending, not %d", back, n, got, w)
			}
		}
	}
}

func TestH4EndInEachState(t *testing.T) {
	for _, state := range states {
		for well, to := range map[bool]int{true: api.Concluded, false: api.Aborted} {
			p := inState(t, state)
			left := p.j.Status().Left
			p.end(well)
			p.wantStatus(to, left)
			if p.j.Goes() {
				t.Error("it goes")
			}
			for _, on := range []bool{true, false} {
				want(t, p.pause(on), api.ErrState)
			}
			p.end(!well)
			p.wantStatus(api.Concluded+api.Aborted-to, left)
		}
	}
}

// TestH3H4AnyGuest: whatever the guest writes while a job goes on, it reads it; and behind the job what hangs on the files that stay alone is the same.
func TestH3H4AnyGuest(t *testing.T) {
	r := rand.New(rand.NewSource(8))
	for range 300 {
		l := []spec{{kindsOf(r, 6), 6, 1}, {kindsOf(r, 6), 6, 2}, {kindsOf(r, 6), 6, -1}, {kindsOf(r, 6), 6, -1}}
		d := []api.Desk{mirror(3), stream(-1), stream(1), stream(2), commit(1), commit(2)}[r.Intn(6)]
		p := running(t, d, l...)
		guest := p.seen(0)
		for p.j.Status().Left > 0 {
			if r.Intn(3) == 0 {
				from := r.Intn(24)
				s := text(1+r.Intn(min(5, 24-from)), byte(r.Intn(3)))
				if err := p.put(from, s); err == nil {
					guest = guest[:16*from] + s + guest[16*from+len(s):]
				}
			}
			p.flush(0, 1, 2, 3) // no place is held: no file is full
			p.wantStep(true)
			if p.seen(0) != guest {
				t.Fatalf("%v: the guest reads %x, not %x", d, p.seen(0), guest)
			}
		}
		want(t, p.settle(), nil)
		behind := d.File
		if d.Kind == api.Stream {
			behind = 0
		}
		if p.seen(behind) != guest {
			t.Fatalf("%v: behind it %x is read, not %x", d, p.seen(behind), guest)
		}
	}
}

func (p *pair) flush(files ...int) {
	for _, n := range files {
		p.s[n].Flush()
		p.m.s[n].Flush()
	}
}

// kindsOf so many clusters.
func kindsOf(r *rand.Rand, n int) string {
	s := ""
	for range n {
		s += string("..zD"[r.Intn(4)])
	}
	return s
}

// anyShelf: most often a chain from 0 on, some files of which are not there, of other clusters, or lead anywhere.
func anyShelf(r *rand.Rand) []spec {
	n := 1 + r.Intn(8)
	var l []spec
	for file := range 5 {
		x := spec{kindsOf(r, n), r.Intn(n + 1), file + 1}
		if file > 0 && r.Intn(4) == 0 || file > 2 {
			x.back = -1
		}
		switch r.Intn(40) {
		case 0:
			x = spec{}
		case 1:
			x.back = r.Intn(5)
		case 2:
			x.kinds += "."
		}
		l = append(l, x)
	}
	return l
}

func TestH1ToH4LongRuns(t *testing.T) {
	r := rand.New(rand.NewSource(9))
	made := 0
	for range 2500 {
		l := anyShelf(r)
		d := api.Desk{Kind: 1 + r.Intn(3), File: []int{-1, 1, 2, 3, 4, 4}[r.Intn(6)], Rate: r.Intn(9), Burst: []int{1000, 1000, r.Intn(30)}[r.Intn(3)]}
		if r.Intn(20) == 0 {
			d = api.Desk{Root: r.Intn(7) - 1, Kind: r.Intn(6) - 1, File: r.Intn(8) - 2, Rate: r.Intn(1003) - 1, Burst: r.Intn(1003) - 1}
		}
		p, err := pairOver(t, shelfOf(t, l...), shelfOf(t, l...), d)
		if err != nil {
			continue
		}
		made++
		for range 50 {
			anyCall(p, r)
		}
	}
	if made < 700 {
		t.Errorf("only %d jobs", made)
	}
}

// anyCall of a pair, most often a step.
func anyCall(p *pair, r *rand.Rand) {
	switch n := r.Intn(40); {
	case n < 18:
		_, _ = p.step()
	case n < 22:
		_ = p.pause(r.Intn(4) == 0)
	case n < 25:
		_ = p.tick(r.Intn(5) - 1)
	case n < 28:
		p.dirty(r.Intn(p.m.clusters+2) - 1)
	case n < 33:
		from := r.Intn(4 * p.m.clusters)
		_ = p.put(from, text(1+r.Intn(min(6, 4*p.m.clusters-from)), byte(r.Intn(3))))
	case n < 35:
		_ = p.wipe(r.Intn(p.m.clusters))
	case n < 38:
		_ = p.settle()
	case n == 38 && r.Intn(4) == 0:
		p.end(r.Intn(2) == 0)
	case n == 39:
		if file := r.Intn(5); p.s[file] != nil {
			p.fail(file, r.Intn(12))
		}
	}
}

// TestZ1FilesThatAreTakenAway: a shelf is anybody's to change: no call panics, and each ends.
func TestZ1FilesThatAreTakenAway(t *testing.T) {
	for _, d := range []api.Desk{mirror(4), stream(-1), stream(2), commit(1), commit(2)} {
		for gone := range 1 << 5 {
			for steps := range 5 {
				s := shelfOf(t, append(three("D.z.", ".DD.", "zD.D"), spec{}, spec{"zD.D", 4, -1})...)
				j, err := New(s, d)
				want(t, err, nil)
				want(t, j.Pause(false), nil)
				for range steps {
					_, _ = j.Step()
				}
				for n := range s {
					if gone>>n&1 == 1 {
						s[n] = nil
					}
				}
				j.Dirty(1)
				for range 6 { // more than there are clusters
					_, _ = j.Step()
				}
				if j.Status().State == api.Running {
					t.Fatalf("%v, %d steps, files %b taken away: it still runs", d, steps, gone)
				}
				_ = j.Settle()
				j.End(true)
			}
		}
	}
}

func TestZ1AStreamWithoutItsRoot(t *testing.T) {
	s := shelfOf(t, spec{".", 0, 1}, spec{".", 0, -1})
	j, err := New(s, stream(-1))
	want(t, err, nil)
	want(t, j.Pause(false), nil)
	s[0] = nil
	want(t, j.Settle(), api.ErrNone)
	if got := j.Status(); got != (api.Status{Kind: api.Stream, File: -1, State: api.Aborted}) {
		t.Errorf("Status() = %v", got)
	}
}

func TestZ1NoShelf(t *testing.T) {
	for root := -2; root < 6; root++ {
		for kind := range 5 {
			j, err := New(nil, api.Desk{Root: root, Kind: kind, File: -1})
			if j != nil || err != api.ErrNone {
				t.Errorf("New(nil, root %d) = %v, %v", root, j, err)
			}
		}
	}
}

func TestZ1AnyNumbers(t *testing.T) {
	numbers := append([]int{-1, 0, 1, 2, 3, 4, 5, 1000, 1001}, far...)
	s := shelfOf(t, spec{"D.", 0, 1}, spec{".D", 0, -1}, spec{"..", 0, -1})
	for _, a := range numbers {
		for _, b := range numbers {
			for _, d := range []api.Desk{{Root: a, Kind: b}, {Root: a, Kind: 3, File: b}, {Kind: a, File: b}, {Kind: 2, File: -1, Rate: a, Burst: b}, {Kind: 1, File: 2, Rate: a, Burst: b}} {
				j, err := New(s, d)
				if (j == nil) != (err != nil) {
					t.Fatalf("New(%v) = %v, %v", d, j, err)
				}
			}
		}
	}
}

func TestZ2JobsGoApart(t *testing.T) {
	l := []spec{{"DD", 0, -1}, {"..", 2, -1}, {"..", 2, -1}}
	s := shelfOf(t, l...)
	a, err := New(s, mirror(1))
	want(t, err, nil)
	b, err := New(s, api.Desk{Kind: api.Mirror, File: 2, Burst: 4})
	want(t, err, nil)
	want(t, a.Pause(false), nil)
	want(t, b.Pause(false), nil)
	for range 2 {
		if did, err := a.Step(); !did || err != nil {
			t.Fatalf("Step() = %v, %v", did, err)
		}
	}
	a.End(false)
	if got := b.Status(); got != (api.Status{Kind: api.Mirror, File: 2, State: api.Running, Left: 2}) {
		t.Errorf("Status() = %v", got)
	}
	if did, err := b.Step(); !did || err != nil {
		t.Errorf("Step() = %v, %v", did, err)
	}
	if got := show(s[2], 0); got != stood(0, 0) {
		t.Errorf("moved %x", got)
	}
}
