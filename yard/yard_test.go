package yard

import (
	"math"
	"math/rand"
	"slices"
	"strings"
	"testing"

	"stackyard/api"
	"stackyard/dev"
	"stackyard/image"
	"stackyard/shape"
)

// far: numbers that no bound lets through.
var far = []int{math.MinInt, math.MinInt + 1, -1 << 32, -256, -2, 1 << 20, 1 << 32, math.MaxInt - 1, math.MaxInt}

// text of so many sectors of a byte.
func text(sectors int, b byte) string { return strings.Repeat(string([]byte{b}), 16*sectors) }

// want: a call answers that error, bare.
func want(t testing.TB, got, want error) {
	t.Helper()
	if got != want {
		t.Fatalf("error %v, not %v", got, want)
	}
}

// pair: a yard, and a model of it, over devices of their own each. Each call is made of both, and then all that is seen of both is held against each other.
type pair struct {
	t testing.TB
	y *Yard
	m *model
}

// pairOf a yard and a model that were made alike; nil, if there is none.
func pairOf(t testing.TB, y *Yard, err error, m *model, wantErr error) (*pair, error) {
	t.Helper()
	want(t, err, wantErr)
	if err != nil {
		if y != nil {
			t.Fatal("a yard with an error")
		}
		return nil, err
	}
	p := &pair{t, y, m}
	p.same(nil, nil)
	return p, nil
}

func tryNew(t testing.TB, clusters, places int) (*pair, error) {
	t.Helper()
	y, err := New(clusters, places)
	m, wantErr := modelNew(clusters, places)
	return pairOf(t, y, err, m, wantErr)
}

func pairNew(t testing.TB, clusters, places int) *pair {
	t.Helper()
	p, err := tryNew(t, clusters, places)
	want(t, err, nil)
	return p
}

func tryOpen(t testing.TB, files []*dev.Dev, top *dev.Dev) (*pair, error) {
	t.Helper()
	y, err := Open(files, top)
	m, wantErr := modelOpen(files, top)
	return pairOf(t, y, err, m, wantErr)
}

func pairOpen(t testing.TB, files []*dev.Dev, top *dev.Dev) *pair {
	t.Helper()
	p, err := tryOpen(t, files, top)
	want(t, err, nil)
	return p
}

func (p *pair) same(err, wantErr error) {
	p.t.Helper()
	want(p.t, err, wantErr)
	if got := p.y.Status(); got != p.m.status() {
		p.t.Fatalf("Status() = %v, not %v", got, p.m.status())
	}
	if got := p.y.Chain(); !slices.Equal(got, p.m.list) {
		p.t.Fatalf("Chain() = %v, not %v", got, p.m.list)
	}
	if got := p.y.Sectors(); got != p.m.sectors() {
		p.t.Fatalf("Sectors() = %d, not %d", got, p.m.sectors())
	}
	l, top := p.y.Devs()
	if len(l) != len(p.m.files) {
		p.t.Fatalf("%d devices, not %d", len(l), len(p.m.files))
	}
	for n, d := range l {
		sameDev(p.t, n, d, p.m.files[n])
	}
	sameDev(p.t, -1, top, p.m.top)
}

func (p *pair) blank(file int) error {
	p.t.Helper()
	err := p.y.Blank(file)
	p.same(err, p.m.blank(file))
	return err
}

func (p *pair) snap(file int) error {
	p.t.Helper()
	err := p.y.Snap(file)
	p.same(err, p.m.snap(file))
	return err
}

func (p *pair) read(from, n int) (string, error) {
	p.t.Helper()
	s, err := p.y.Read(from, n)
	wantS, wantErr := p.m.shelf.Get(p.m.list, from, n)
	p.same(err, wantErr)
	if s != wantS {
		p.t.Fatalf("Read(%d, %d) = %x, not %x", from, n, s, wantS)
	}
	return s, err
}

func (p *pair) write(from int, s string) error {
	p.t.Helper()
	err := p.y.Write(from, s)
	p.same(err, p.m.put(from, s))
	return err
}

func (p *pair) wipe(from, n int) error {
	p.t.Helper()
	err := p.y.Wipe(from, n)
	p.same(err, p.m.wipe(from, n))
	return err
}

func (p *pair) flush() {
	p.t.Helper()
	p.y.Flush()
	p.m.flush()
	p.same(nil, nil)
}

func (p *pair) start(kind, file, rate, burst int) error {
	p.t.Helper()
	err := p.y.Start(kind, file, rate, burst)
	p.same(err, p.m.start(kind, file, rate, burst))
	return err
}

func (p *pair) step() (bool, error) {
	p.t.Helper()
	did, err := p.y.Step()
	wantDid, wantErr := p.m.step()
	p.same(err, wantErr)
	if did != wantDid {
		p.t.Fatalf("Step() = %v, not %v", did, wantDid)
	}
	return did, err
}

func (p *pair) pivot() error {
	p.t.Helper()
	err := p.y.Pivot()
	p.same(err, p.m.pivot())
	return err
}

func (p *pair) cancel() error {
	p.t.Helper()
	err := p.y.Cancel()
	p.same(err, p.m.cancel())
	return err
}

func (p *pair) pause(on bool) error {
	p.t.Helper()
	err := p.y.Pause(on)
	p.same(err, p.m.pause(on))
	return err
}

func (p *pair) tick(n int) error {
	p.t.Helper()
	err := p.y.Tick(n)
	p.same(err, p.m.tick(n))
	return err
}

func (p *pair) fail(file, n int) error {
	p.t.Helper()
	err := p.y.Fail(file, n)
	p.same(err, p.m.fail(file, n))
	return err
}

// crash: another pair; this one stays.
func (p *pair) crash(keep [][]bool) (*pair, error) {
	p.t.Helper()
	y, err := p.y.Crash(keep)
	m, wantErr := p.m.crash(keep)
	p.same(nil, nil)
	return pairOf(p.t, y, err, m, wantErr)
}

// crashed: the pair that is found, and there is one.
func (p *pair) crashed(keep [][]bool) *pair {
	p.t.Helper()
	c, err := p.crash(keep)
	want(p.t, err, nil)
	return c
}

// wantStep: a step answers true, or false.
func (p *pair) wantStep(want bool) {
	p.t.Helper()
	if did, err := p.step(); did != want || err != nil {
		p.t.Fatalf("Step() = %v, %v, not %v", did, err, want)
	}
}

// wantStepError: a step answers an error.
func (p *pair) wantStepError(want error) {
	p.t.Helper()
	if did, err := p.step(); did || err != want {
		p.t.Fatalf("Step() = %v, %v, not %v", did, err, want)
	}
}

func (p *pair) wantStatus(kind, file, state, left int) {
	p.t.Helper()
	if got := p.y.Status(); got != (api.Status{Kind: kind, File: file, State: state, Left: left}) {
		p.t.Fatalf("Status() = %v, not kind %d, file %d, state %d, %d left", got, kind, file, state, left)
	}
}

// wantIdle: there was no job yet.
func (p *pair) wantIdle() {
	p.t.Helper()
	p.wantStatus(0, -1, api.Idle, 0)
}

func (p *pair) wantChain(l ...int) {
	p.t.Helper()
	if got := p.y.Chain(); !slices.Equal(got, l) {
		p.t.Fatalf("Chain() = %v, not %v", got, l)
	}
}

// wantSeen: all that the guest sees, a byte a sector ('.': a nought).
func (p *pair) wantSeen(bytes string) {
	p.t.Helper()
	s, err := p.read(0, p.y.Sectors())
	want(p.t, err, nil)
	if got := brief(s); got != bytes {
		p.t.Fatalf("seen: %s, not %s", got, bytes)
	}
}

// brief: a byte a sector; '?', if it has several.
func brief(s string) string {
	var b strings.Builder
	for n := range len(s) / 16 {
		c := s[16*n]
		switch {
		case s[16*n:16*n+16] != text(1, c):
			c = '?'
		case c == 0:
			c = '.'
		}
		b.WriteByte(c)
	}
	return b.String()
}

// wantDesk: what stands on the desk's device, flushed, nothing pending.
func (p *pair) wantDesk(d api.Desk) {
	p.t.Helper()
	_, top := p.y.Devs()
	got, err := shape.ReadDesk(top.Bytes())
	if got != d || err != nil || top.Pending() != 0 {
		p.t.Fatalf("the desk is %v, %v, %d pending, not %v", got, err, top.Pending(), d)
	}
}

// wantRoot: the desk is without a job.
func (p *pair) wantRoot(root int) {
	p.t.Helper()
	p.wantDesk(api.Desk{Root: root, File: -1})
}

// wantPending: how many writes are pending on each file's device, from file 0 on.
func (p *pair) wantPending(l ...int) {
	p.t.Helper()
	devs, _ := p.y.Devs()
	for n, want := range l {
		if got := devs[n].Pending(); got != want {
			p.t.Fatalf("file %d: %d pending, not %d", n, got, want)
		}
	}
}

// head of the image that stands on a file's device.
func (p *pair) head(file int) api.Head {
	p.t.Helper()
	l, _ := p.y.Devs()
	i, err := image.Open(l[file])
	want(p.t, err, nil)
	return i.Head()
}

// ok: all of these calls went well.
func ok(t testing.TB, errs ...error) {
	t.Helper()
	for n, err := range errs {
		if err != nil {
			t.Fatalf("call %d: %v", n, err)
		}
	}
}

// letters: sectors, a byte each ('.': a nought).
func letters(s string) string {
	var b strings.Builder
	for _, c := range []byte(s) {
		if c == '.' {
			c = 0
		}
		b.WriteString(text(1, c))
	}
	return b.String()
}

// three files one above the other: 2 over 1 over 0; of three clusters each has one, 2 the last one. Files 3 and 4 are none.
func three(t testing.TB) *pair {
	t.Helper()
	p := pairNew(t, 3, 4)
	ok(t, p.write(0, letters("aaaa")), p.snap(1), p.write(4, letters("bbbb")), p.snap(2), p.write(8, letters("cccc")))
	p.flush()
	p.wantSeen("aaaabbbbcccc")
	p.wantChain(2, 1, 0)
	return p
}

// mirrored: three, and a mirror to file 3 that runs.
func mirrored(t testing.TB) *pair {
	t.Helper()
	p := three(t)
	ok(t, p.blank(3), p.start(api.Mirror, 3, 0, 1000))
	p.wantStatus(api.Mirror, 3, api.Running, 3)
	return p
}

func (p *pair) through() {
	p.t.Helper()
	for n := p.y.Status().Left; n > 0; n-- {
		p.wantStep(true)
	}
}

// spec of a device: an image of kinds, a letter a cluster, '.' Absent, 'z' Zero, 'D' Data; so many places more. No kinds: rubbish.
type spec struct {
	kinds string
	free  int
	back  int
}

func devOf(t testing.TB, p spec) *dev.Dev {
	t.Helper()
	h := api.Head{Clusters: len(p.kinds), Places: strings.Count(p.kinds, "D") + p.free, Back: p.back}
	size := image.Need(h)
	if p.kinds == "" {
		size = 12
	}
	d, err := dev.Of(strings.Repeat("rubbish! rubbish", size))
	ok(t, err)
	if p.kinds == "" {
		return d
	}
	i, err := image.Create(d, h)
	ok(t, err)
	for c, k := range p.kinds {
		switch k {
		case 'D':
			ok(t, i.Fill(c, letters("0123")))
		case 'z':
			ok(t, i.Clear(c))
		}
	}
	i.Flush()
	return d
}

// devsOf specs; those that there are not are rubbish.
func devsOf(t testing.TB, l ...spec) []*dev.Dev {
	t.Helper()
	var files []*dev.Dev
	for n := range 5 {
		var s spec
		if n < len(l) {
			s = l[n]
		}
		files = append(files, devOf(t, s))
	}
	return files
}

// topOf a desk.
func topOf(t testing.TB, d api.Desk) *dev.Dev {
	t.Helper()
	s, err := shape.Desk(d)
	ok(t, err)
	top, err := dev.Of(s)
	ok(t, err)
	return top
}

func TestJ1NewYard(t *testing.T) {
	for _, x := range []struct{ clusters, places, sectors int }{{1, 0, 2}, {3, 6, 26}, {8, 1, 6}, {9, 1, 7}, {32, 40, 165}, {32, 0, 5}, {1, 40, 162}} {
		p := pairNew(t, x.clusters, x.places)
		p.wantChain(0)
		p.wantIdle()
		p.wantRoot(0)
		if got := p.y.Sectors(); got != 4*x.clusters {
			t.Errorf("Sectors() = %d", got)
		}
		if got := p.head(0); got != (api.Head{Clusters: x.clusters, Places: x.places, Back: -1}) {
			t.Errorf("head %v", got)
		}
		l, top := p.y.Devs()
		if len(l) != 5 || top.Size() != 1 || top.Writes() != 1 {
			t.Errorf("%d devices, %d sectors of the desk's, %d writes", len(l), top.Size(), top.Writes())
		}
		for n, d := range l {
			if d.Size() != x.sectors || d.Pending() != 0 {
				t.Errorf("file %d: %d sectors, %d pending", n, d.Size(), d.Pending())
			}
			if n > 0 && (d.Bytes() != text(x.sectors, 0) || d.Writes() != 0) {
				t.Errorf("file %d was written to", n)
			}
		}
		s, err := p.read(0, 4*x.clusters)
		want(t, err, nil)
		if s != text(4*x.clusters, 0) {
			t.Errorf("it reads %x", s)
		}
	}
}

func TestJ1CheckHeadsError(t *testing.T) {
	for _, n := range append([]int{-1, 0, 33}, far...) {
		_, err := tryNew(t, n, 6)
		want(t, err, api.ErrBound)
	}
	for _, n := range append([]int{-1, 41}, far...) {
		_, err := tryNew(t, 3, n)
		want(t, err, api.ErrBound)
	}
}

func TestJ1OtherFilesAreNone(t *testing.T) {
	for file := 1; file < 5; file++ {
		p := pairNew(t, 2, 2)
		want(t, p.start(api.Mirror, file, 0, 8), api.ErrNone)
		want(t, p.blank(file), nil)
		want(t, p.start(api.Mirror, file, 0, 8), nil)
	}
}

// TestJ1ADeskThatIsNotWritten: each call that writes one, with a write that fails: the desk stays, nothing is pending, and the next write goes well.
func TestJ1ADeskThatIsNotWritten(t *testing.T) {
	p := three(t)
	ok(t, p.blank(3), p.fail(-1, 0))
	want(t, p.start(api.Mirror, 3, 5, 8), api.ErrIO)
	p.wantIdle()
	p.wantRoot(2)
	ok(t, p.start(api.Mirror, 3, 5, 8))
	p.wantDesk(api.Desk{Root: 2, Kind: api.Mirror, File: 3, Rate: 5, Burst: 8})

	ok(t, p.fail(-1, 0))
	want(t, p.cancel(), api.ErrIO)
	p.wantStatus(api.Mirror, 3, api.Running, 3)
	p.wantDesk(api.Desk{Root: 2, Kind: api.Mirror, File: 3, Rate: 5, Burst: 8})
	ok(t, p.cancel())
	p.wantStatus(api.Mirror, 3, api.Aborted, 3)
	p.wantRoot(2)

	ok(t, p.fail(-1, 0))
	want(t, p.start(api.Stream, -1, 0, 1000), api.ErrIO)
	p.wantStatus(api.Mirror, 3, api.Aborted, 3) // the last that was started
	ok(t, p.start(api.Mirror, 3, 0, 1000))
	p.through()
	ok(t, p.fail(-1, 0))
	want(t, p.pivot(), api.ErrIO)
	p.wantStatus(api.Mirror, 3, api.Ready, 0)
	p.wantChain(2, 1, 0)
	ok(t, p.pivot())
	p.wantChain(3)
	p.wantRoot(3)

	ok(t, p.fail(-1, 0))
	want(t, p.snap(4), api.ErrIO)
	p.wantChain(3)
	p.wantRoot(3)
	want(t, p.start(api.Mirror, 4, 0, 8), api.ErrShape) // the file is an image above the root all the same
	ok(t, p.snap(4))
	p.wantChain(4, 3)
	p.wantRoot(4)
}

func TestJ2OpenAsItStands(t *testing.T) {
	p := three(t)
	ok(t, p.blank(4), p.wipe(5, 2), p.write(11, letters("d")))
	o := pairOpen(t, p.m.files, p.m.top)
	o.wantChain(2, 1, 0)
	o.wantIdle()
	o.wantSeen("aaaab..bcccd") // what is pending goes along
	files, _ := p.y.Devs()
	for n, d := range files {
		sameDev(t, n, o.y.devs[n], d)
	}
}

func TestJ2JustSoManyDevices(t *testing.T) {
	files := devsOf(t, spec{".", 0, -1})
	top := topOf(t, api.Desk{File: -1})
	bad := topOf(t, api.Desk{Root: 4, File: -1}) // another error is behind this one
	for n := range 5 {
		_, err := tryOpen(t, files[:n], bad)
		want(t, err, api.ErrBound)
		holed := slices.Clone(files)
		holed[n] = nil
		_, err = tryOpen(t, holed, bad)
		want(t, err, api.ErrBound)
	}
	for _, l := range [][]*dev.Dev{nil, append(slices.Clone(files), files[0]), append(slices.Clone(files), nil)} {
		_, err := tryOpen(t, l, top)
		want(t, err, api.ErrBound)
	}
	_, err := tryOpen(t, files, nil)
	want(t, err, api.ErrBound)
	_, err = tryOpen(t, files, top)
	want(t, err, nil)
}

func TestJ2ReadDesksErrorAheadOfWalks(t *testing.T) {
	good := devsOf(t, spec{".", 0, -1})
	for _, files := range [][]*dev.Dev{good, devsOf(t)} {
		s, err := shape.Desk(api.Desk{File: -1})
		ok(t, err)
		for n := range 16 {
			b := []byte(s)
			b[n] ^= 1
			top, err := dev.Of(string(b))
			ok(t, err)
			_, err = tryOpen(t, files, top)
			want(t, err, api.ErrSum)
		}
		head, err := shape.Head(api.Head{Clusters: 1, Back: -1})
		ok(t, err)
		top, err := dev.Of(head)
		ok(t, err)
		_, err = tryOpen(t, files, top)
		want(t, err, api.ErrShape)
	}
	_, err := tryOpen(t, good, devOf(t, spec{}))
	want(t, err, api.ErrSum)
}

func TestJ2ADeskOfSeveralSectors(t *testing.T) {
	s, err := shape.Desk(api.Desk{Root: 1, File: -1})
	ok(t, err)
	top, err := dev.Of(s + text(2, 'x'))
	ok(t, err)
	p := pairOpen(t, devsOf(t, spec{}, spec{"D", 0, -1}), top)
	p.wantChain(1)
	ok(t, p.blank(0), p.start(api.Mirror, 0, 0, 8))
	_, top = p.y.Devs()
	if got := top.Bytes(); top.Size() != 3 || got[16:] != text(2, 'x') {
		t.Errorf("the desk's device is %x", got)
	}
}

func TestJ2WalksErrorOfTheRoot(t *testing.T) {
	for _, x := range []struct {
		want  error
		root  int
		files []spec
	}{
		{api.ErrNone, 0, nil},
		{api.ErrNone, 1, []spec{{".", 0, -1}}},
		{api.ErrNone, 0, []spec{{".", 0, 1}}},
		{api.ErrChain, 0, []spec{{".", 0, 1}, {".", 0, 0}}},
		{api.ErrChain, 4, []spec{{}, {}, {}, {}, {".", 0, 4}}},
		{api.ErrShape, 0, []spec{{".", 0, 1}, {"..", 0, -1}}},
		{nil, 1, []spec{{".", 0, 0}, {".", 0, -1}}}, // what is not the root's does not matter
		{nil, 0, []spec{{".", 0, 1}, {".", 0, 2}, {".", 0, 3}, {".", 0, 4}, {".", 0, -1}}},
	} {
		_, err := tryOpen(t, devsOf(t, x.files...), topOf(t, api.Desk{Root: x.root, File: -1}))
		want(t, err, x.want)
		_, err = tryOpen(t, devsOf(t, x.files...), topOf(t, api.Desk{Root: x.root, Kind: api.Stream, File: -1, Rate: 3}))
		want(t, err, x.want)
	}
}

func TestJ2AFileOnWhichNoImageStands(t *testing.T) {
	l := []spec{{".", 0, -1}, {".", 1, -1}}
	whole := devsOf(t, l...)[1].Bytes()
	for _, x := range []struct {
		bytes string
		want  error
	}{
		{whole, nil},
		{whole + text(3, 'x'), nil},
		{text(1, 0) + whole[16:], api.ErrNone},              // no head
		{whole[:16] + text(1, 9) + whole[32:], api.ErrNone}, // no table
		{whole[:len(whole)-16], api.ErrNone},                // no room
		{whole[:16], api.ErrNone},                           // nor for the table
		{topOf(t, api.Desk{File: -1}).Bytes(), api.ErrNone}, // a desk
		{whole[:16] + text(5, 0), nil},                      // a table of noughts is one
		{whole[:15] + "?" + whole[16:], api.ErrNone},        // no sum
		{whole[:16] + whole[:16] + text(4, 0), api.ErrNone}, // a head for a table
		{text(6, 'x'), api.ErrNone},                         // rubbish
		{text(200, 0), api.ErrNone},                         // nothing
	} {
		files := devsOf(t, l...)
		var err error
		files[1], err = dev.Of(x.bytes)
		ok(t, err)
		p := pairOpen(t, files, topOf(t, api.Desk{File: -1}))
		want(t, p.start(api.Mirror, 1, 0, 8), x.want)
	}
}

// chainOf three clusters: 0 over 1 over 2, and 3 apart.
func chainOf() []spec {
	return []spec{{"D..", 3, 1}, {".D.", 3, 2}, {"..D", 3, -1}, {"...", 3, -1}}
}

func TestJ2TheJobIsFound(t *testing.T) {
	for _, x := range []struct {
		desk api.Desk
		left int
	}{
		{api.Desk{Kind: api.Mirror, File: 3, Burst: 8}, 3},
		{api.Desk{Kind: api.Stream, File: -1, Burst: 8}, 2},
		{api.Desk{Kind: api.Stream, File: 2, Burst: 8}, 1},
		{api.Desk{Kind: api.Commit, File: 1, Burst: 8}, 1},
		{api.Desk{Kind: api.Commit, File: 2, Burst: 8}, 2},
		{api.Desk{Root: 1, Kind: api.Stream, File: -1, Burst: 8}, 1},
		{api.Desk{Root: 1, Kind: api.Mirror, File: 3, Burst: 8}, 3},
		{api.Desk{Root: 2, Kind: api.Mirror, File: 3, Burst: 8}, 3},
	} {
		p := pairOpen(t, devsOf(t, chainOf()...), topOf(t, x.desk))
		p.wantStatus(x.desk.Kind, x.desk.File, api.Paused, x.left)
		p.wantDesk(x.desk)
		p.wantStepError(api.ErrState)
		want(t, p.start(api.Stream, -1, 0, 8), api.ErrBusy)
		want(t, p.snap(4), api.ErrBusy)
		ok(t, p.pause(false))
		p.wantStep(true)
	}
}

func TestJ2HowFastTheFoundJobMay(t *testing.T) {
	p := pairOpen(t, devsOf(t, chainOf()...), topOf(t, api.Desk{Kind: api.Mirror, File: 3, Rate: 2, Burst: 4}))
	ok(t, p.pause(false))
	p.wantStep(true)
	p.wantStep(false)
	ok(t, p.tick(1))
	p.wantStep(false)
	ok(t, p.tick(1))
	p.wantStep(true)
}

func TestJ2AStreamThatIsOver(t *testing.T) {
	for _, d := range []api.Desk{{Kind: api.Stream, File: 1, Rate: 1}, {Root: 1, Kind: api.Stream, File: 2, Burst: 1000}, {Root: 2, Kind: api.Stream, File: -1}} {
		p := pairOpen(t, devsOf(t, chainOf()...), topOf(t, d))
		p.wantIdle()
		p.wantDesk(d) // it writes nothing
		p.wantStepError(api.ErrNone)
		ok(t, p.snap(4))
		p.wantRoot(4)
	}
	for _, d := range []api.Desk{{Kind: api.Commit, File: 1}, {Root: 1, Kind: api.Commit, File: 2}} { // others are not over so
		p := pairOpen(t, devsOf(t, chainOf()...), topOf(t, d))
		p.wantStatus(api.Commit, d.File, api.Paused, 1)
	}
}

func TestJ2AJobThatMayNotGoOn(t *testing.T) {
	for _, d := range []api.Desk{
		{Kind: api.Mirror, File: 4},          // none
		{Kind: api.Mirror, File: 1},          // in the list
		{Root: 2, Kind: api.Mirror, File: 1}, // it has a Back
		{Kind: api.Stream, File: 3}, {Kind: api.Stream, File: 4}, {Root: 1, Kind: api.Stream, File: 0},
		{Kind: api.Commit, File: 3}, {Kind: api.Commit, File: 4}, {Root: 1, Kind: api.Commit, File: 0},
	} {
		p := pairOpen(t, devsOf(t, chainOf()...), topOf(t, d))
		p.wantIdle()
		p.wantDesk(d)
		want(t, p.cancel(), api.ErrNone)
		ok(t, p.start(api.Stream, -1, 7, 9))
		p.wantDesk(api.Desk{Root: d.Root, Kind: api.Stream, File: -1, Rate: 7, Burst: 9})
	}
}

func TestJ2CopiesOfTheDevices(t *testing.T) {
	files := devsOf(t, chainOf()...)
	top := topOf(t, api.Desk{File: -1})
	ok(t, files[0].Write(0, text(1, 'p')), files[0].Write(0, files[0].Bytes()[:16]), files[1].Fail(0), files[3].Fail(1), top.Fail(0))
	var was []*dev.Dev
	for _, d := range append(slices.Clone(files), top) {
		was = append(was, d.Copy())
	}
	p := pairOpen(t, files, top)
	p.wantPending(2, 0, 0, 0, 0)
	want(t, p.blank(3), api.ErrIO) // the failures go along
	ok(t, p.write(1, letters("xyz")))
	want(t, p.start(api.Stream, -1, 0, 1000), api.ErrIO)
	ok(t, p.start(api.Stream, -1, 0, 1000))
	for n, d := range append(slices.Clone(files), top) {
		sameDev(t, n, d, was[n])
	}
	want(t, files[1].Write(0, text(1, 'x')), api.ErrIO) // theirs is still ahead
	ok(t, files[0].Write(1, text(1, 'x')), files[1].Write(0, text(1, 'x')))
	p.same(nil, nil)
}

func TestJ3TheChain(t *testing.T) {
	p := pairNew(t, 2, 3)
	p.wantChain(0)
	ok(t, p.snap(3))
	p.wantChain(3, 0)
	ok(t, p.snap(1), p.snap(4))
	p.wantChain(4, 1, 3, 0)
	if got := p.y.Sectors(); got != 8 {
		t.Errorf("Sectors() = %d", got)
	}
	for n, back := range map[int]int{4: 1, 1: 3, 3: 0, 0: -1} {
		if got := p.head(n); got != (api.Head{Clusters: 2, Places: 3, Back: back}) {
			t.Errorf("file %d: head %v", n, got)
		}
	}
}

func TestJ3BlankWhatIsUsed(t *testing.T) {
	p := mirrored(t)
	for file := range 4 {
		want(t, p.blank(file), api.ErrExist)
	}
	ok(t, p.blank(4), p.pause(true))
	want(t, p.blank(3), api.ErrExist)
	ok(t, p.pause(false))
	p.through()
	want(t, p.blank(3), api.ErrExist) // ready, it goes
	ok(t, p.cancel(), p.blank(3))
	want(t, p.blank(0), api.ErrExist)
	ok(t, p.start(api.Mirror, 3, 0, 1000))
	p.through()
	ok(t, p.pivot(), p.blank(0), p.blank(1), p.blank(2))
	want(t, p.blank(3), api.ErrExist) // the chain's now
	p.wantSeen("aaaabbbbcccc")
	for _, file := range append([]int{-1, 5}, far...) {
		want(t, p.blank(file), api.ErrBound)
		want(t, p.snap(file), api.ErrBound)
	}
}

func TestJ3BlankHasNothing(t *testing.T) {
	p := mirrored(t)
	p.through()
	ok(t, p.cancel(), p.blank(3))
	p.wantPending(0, 0, 0, 0, 0)
	if got := p.head(3); got != (api.Head{Clusters: 3, Places: 4, Back: -1}) {
		t.Errorf("head %v", got)
	}
	l, _ := p.y.Devs()
	i, err := image.Open(l[3])
	ok(t, err)
	for c := range 3 {
		if kind, err := i.Kind(c); kind != api.Absent || err != nil {
			t.Errorf("Kind(%d) = %d, %v", c, kind, err)
		}
	}
}

// TestJ3PlacesAsThereIsRoom: devices of several sizes beside the root.
func TestJ3PlacesAsThereIsRoom(t *testing.T) {
	for _, x := range []struct{ clusters, size, places int }{
		{3, 2, 0}, {3, 5, 0}, {3, 6, 1}, {3, 9, 1}, {3, 10, 2}, {3, 161, 39}, {3, 162, 40}, {3, 165, 40},
		{32, 5, 0}, {32, 8, 0}, {32, 9, 1}, {32, 165, 40}, {32, 168, 40}, {9, 3, 0}, {9, 6, 0}, {9, 7, 1}, {9, 166, 40},
	} {
		files := devsOf(t, spec{strings.Repeat(".", x.clusters), 2, -1})
		for n := 1; n < 3; n++ {
			var err error
			files[n], err = dev.New(x.size)
			ok(t, err)
		}
		p := pairOpen(t, files, topOf(t, api.Desk{File: -1}))
		ok(t, p.blank(1), p.snap(2))
		if got := p.head(1); got != (api.Head{Clusters: x.clusters, Places: x.places, Back: -1}) {
			t.Errorf("%d sectors: head %v", x.size, got)
		}
		if got := p.head(2); got != (api.Head{Clusters: x.clusters, Places: x.places, Back: 0}) {
			t.Errorf("%d sectors: head %v", x.size, got)
		}
	}
}

func TestJ3NoRoomAtAll(t *testing.T) {
	for _, x := range []struct{ clusters, size int }{{1, 1}, {8, 1}, {9, 1}, {9, 2}, {32, 1}, {32, 4}} {
		files := devsOf(t, spec{strings.Repeat(".", x.clusters), 2, -1})
		d, err := dev.New(x.size)
		ok(t, err)
		files[1] = d
		p := pairOpen(t, files, topOf(t, api.Desk{File: -1}))
		want(t, p.blank(1), api.ErrBound)
		want(t, p.snap(1), api.ErrBound)
		p.wantChain(0)
		p.wantRoot(0)
	}
}

// great: a yard of so many clusters; on a device of so many sectors stands file 1, an image apart, and on another one file 2, none.
func great(t testing.TB, clusters, size int) *pair {
	t.Helper()
	files := devsOf(t, spec{strings.Repeat(".", clusters), 2, -1})
	for n := 1; n < 3; n++ {
		var err error
		files[n], err = dev.New(size)
		ok(t, err)
	}
	_, err := image.Create(files[1], api.Head{Clusters: clusters, Places: 1, Back: -1})
	ok(t, err)
	return pairOpen(t, files, topOf(t, api.Desk{File: -1}))
}

// TestJ3MoreRoomThanPlaces: there is room for more places than an image may have: nothing is written, and the file is none, whatever it was.
func TestJ3MoreRoomThanPlaces(t *testing.T) {
	for _, x := range []struct{ clusters, size int }{
		{1, 166}, {1, 167}, {1, 169}, {1, 170}, {1, 200}, {3, 166}, {8, 166}, {9, 167}, {9, 200}, {32, 169}, {32, 172}, {32, 200},
	} {
		for file := 1; file < 3; file++ {
			for _, call := range []func(*pair, int) error{(*pair).blank, (*pair).snap} {
				p := great(t, x.clusters, x.size)
				was, _ := p.y.Devs()
				want(t, call(p, file), api.ErrBound)
				files, _ := p.y.Devs()
				sameDev(t, file, files[file], was[file])
				want(t, p.start(api.Mirror, file, 0, 8), api.ErrNone)
				p.wantIdle()
				p.wantChain(0)
				p.wantRoot(0)
				want(t, call(p, file), api.ErrBound)
			}
		}
	}
}

// TestJ3GreatButUsed: what is used is told ahead of how great it is.
func TestJ3GreatButUsed(t *testing.T) {
	p := great(t, 2, 200)
	ok(t, p.start(api.Mirror, 1, 0, 1000))
	want(t, p.blank(1), api.ErrExist)
	want(t, p.snap(1), api.ErrBusy)
	want(t, p.snap(2), api.ErrBusy)
	p.through()
	ok(t, p.pivot())
	p.wantChain(1)
	want(t, p.blank(1), api.ErrExist)
	want(t, p.snap(1), api.ErrExist)
	ok(t, p.snap(0)) // above a great one
	p.wantChain(0, 1)
}

// TestJ3ABlankThatFails: whatever the file was, it is none; another try is one.
func TestJ3ABlankThatFails(t *testing.T) {
	for _, call := range []func(*pair) error{func(p *pair) error { return p.blank(3) }, func(p *pair) error { return p.snap(3) }} {
		for n := range 2 { // the one row, the head
			p := three(t)
			ok(t, p.blank(3), p.fail(3, n))
			want(t, call(p), api.ErrIO)
			p.wantChain(2, 1, 0)
			p.wantRoot(2)
			want(t, p.start(api.Mirror, 3, 0, 8), api.ErrNone)
			p.wantSeen("aaaabbbbcccc")
			ok(t, call(p))
		}
	}
	small := chainOf()
	small[3] = spec{".", 0, -1} // an image, but there is no room for one of nine clusters
	for n := range 3 {
		small[n].kinds = strings.Repeat(".", 9)
	}
	p := pairOpen(t, devsOf(t, small...), topOf(t, api.Desk{File: -1}))
	want(t, p.start(api.Mirror, 3, 0, 8), api.ErrShape)
	want(t, p.blank(3), api.ErrBound)
	want(t, p.start(api.Mirror, 3, 0, 8), api.ErrNone)
}

func TestJ3SnapsErrorsInOrder(t *testing.T) {
	p := pairNew(t, 1, 2)
	ok(t, p.snap(1), p.snap(2))
	want(t, p.snap(1), api.ErrExist)
	ok(t, p.snap(3))
	for _, file := range append([]int{-1, 0, 1, 2, 3, 4, 5}, far...) {
		want(t, p.snap(file), api.ErrFull)
	}
	ok(t, p.start(api.Stream, 0, 0, 8))
	for _, file := range append([]int{-1, 0, 3, 4, 5}, far...) {
		want(t, p.snap(file), api.ErrBusy)
	}
	ok(t, p.pause(true))
	want(t, p.snap(4), api.ErrBusy)
	ok(t, p.cancel())
	want(t, p.snap(4), api.ErrFull)
}

// TestJ3SnapOverAllFiles: a chain of MaxFiles files has not MaxFiles less 1: Snap is as Blank.
func TestJ3SnapOverAllFiles(t *testing.T) {
	five := []spec{{".", 0, 1}, {".", 0, 2}, {".", 0, 3}, {".", 0, 4}, {".", 0, -1}}
	p := pairOpen(t, devsOf(t, five...), topOf(t, api.Desk{File: -1}))
	p.wantChain(0, 1, 2, 3, 4)
	asBlank := func(file int, e error) {
		t.Helper()
		want(t, p.blank(file), e)
		want(t, p.snap(file), e)
		p.wantChain(0, 1, 2, 3, 4)
		p.wantRoot(0)
	}
	for file := range 5 {
		asBlank(file, api.ErrExist)
	}
	for _, file := range append([]int{-1, 5}, far...) {
		asBlank(file, api.ErrBound)
	}
	ok(t, p.start(api.Commit, 1, 0, 8))
	for _, file := range []int{-1, 0, 4, 5} {
		want(t, p.snap(file), api.ErrBusy)
	}
	ok(t, p.pivot())
	p.wantChain(1, 2, 3, 4)
	want(t, p.snap(0), api.ErrFull) // one fewer
	want(t, p.snap(5), api.ErrFull)
	ok(t, p.start(api.Commit, 2, 0, 8), p.pivot(), p.snap(1))
	p.wantChain(1, 2, 3, 4)
}

func TestJ3SnapKeepsWhatIsSeen(t *testing.T) {
	p := pairNew(t, 3, 3)
	ok(t, p.write(2, letters("abcd")), p.snap(4))
	p.wantSeen("..abcd......")
	ok(t, p.write(3, letters("x")), p.wipe(4, 4))
	p.wantSeen("..ax........")
	l, _ := p.y.Devs()
	i, err := image.Open(l[0])
	ok(t, err)
	s, err := i.Read(0)
	ok(t, err)
	if brief(s) != "..ab" {
		t.Errorf("file 0 has %s", brief(s))
	}
}

func TestJ4ReadWriteWipe(t *testing.T) {
	p := pairNew(t, 2, 2)
	ok(t, p.write(1, letters("ABCDE")), p.wipe(3, 2), p.write(0, ""), p.write(8, ""), p.wipe(8, 0))
	p.wantSeen(".AB..E..")
	s, err := p.read(2, 4)
	want(t, err, nil)
	if brief(s) != "B..E" {
		t.Errorf("Read(2, 4) = %s", brief(s))
	}
	for _, x := range []struct{ from, n int }{{-1, 1}, {8, 1}, {7, 2}, {0, 9}, {9, 0}, {-1, 0}, {0, -1}, {4, -4}} {
		s, err := p.read(x.from, x.n)
		want(t, err, api.ErrBound)
		if s != "" {
			t.Errorf("Read(%d, %d) = %x", x.from, x.n, s)
		}
		want(t, p.wipe(x.from, x.n), api.ErrBound)
		if x.n >= 0 {
			want(t, p.write(x.from, text(x.n, 'x')), api.ErrBound)
		}
	}
	for _, n := range far {
		_, err := p.read(n, 1)
		want(t, err, api.ErrBound)
		_, err = p.read(0, n)
		want(t, err, api.ErrBound)
		want(t, p.wipe(n, 1), api.ErrBound)
		want(t, p.wipe(1, n), api.ErrBound)
		want(t, p.write(n, text(1, 'x')), api.ErrBound)
		want(t, p.write(n, ""), api.ErrBound)
	}
	for _, n := range []int{1, 15, 17, 31} {
		want(t, p.write(0, strings.Repeat("x", n)), api.ErrBound)
	}
	p.wantSeen(".AB..E..")
}

func TestJ4ClustersAreDirty(t *testing.T) {
	for _, x := range []struct {
		from, n, left int
	}{{0, 1, 1}, {0, 4, 1}, {0, 5, 2}, {3, 1, 1}, {3, 2, 2}, {3, 6, 3}, {4, 4, 1}, {0, 12, 3}, {7, 1, 1}, {7, 5, 2}, {11, 1, 1}, {0, 0, 0}, {12, 0, 0}, {5, 0, 0}} {
		for _, wipe := range []bool{false, true} {
			p := mirrored(t)
			p.through()
			p.wantStatus(api.Mirror, 3, api.Ready, 0)
			if wipe {
				ok(t, p.wipe(x.from, x.n))
			} else {
				ok(t, p.write(x.from, text(x.n, 'x')))
			}
			state := api.Ready
			if x.left > 0 {
				state = api.Running
			}
			p.wantStatus(api.Mirror, 3, state, x.left)
			p.through()
			seen, err := p.read(0, 12)
			ok(t, err, p.pivot())
			p.wantSeen(brief(seen))
		}
	}
}

func TestJ4OutOfBoundsIsNotDirty(t *testing.T) {
	p := mirrored(t)
	p.through()
	want(t, p.write(0, strings.Repeat("x", 17)), api.ErrBound)
	want(t, p.write(11, letters("xx")), api.ErrBound)
	want(t, p.write(-1, letters("xx")), api.ErrBound)
	want(t, p.wipe(0, 13), api.ErrBound)
	want(t, p.wipe(-1, 3), api.ErrBound)
	want(t, p.wipe(4, -1), api.ErrBound)
	p.wantStatus(api.Mirror, 3, api.Ready, 0)
}

// TestJ4AFailedWriteIsDirty: all its clusters, also those that it did not come to.
func TestJ4AFailedWriteIsDirty(t *testing.T) {
	for n := range 6 {
		p := mirrored(t)
		p.through()
		ok(t, p.fail(2, n))
		err := p.write(2, letters("uvwxyzUVWX")) // of cluster 0 a whole cluster and a row; so of 1; then 2, at its place
		want(t, err, api.ErrIO)
		p.wantStatus(api.Mirror, 3, api.Running, 3)
	}
	p := mirrored(t)
	p.through()
	ok(t, p.fail(2, 0))
	want(t, p.wipe(0, 8), api.ErrIO)
	p.wantStatus(api.Mirror, 3, api.Running, 2)
	p.wantSeen("aaaabbbbcccc")
}

func TestJ4AFullFileIsDirty(t *testing.T) {
	p := pairNew(t, 3, 1)
	ok(t, p.blank(1), p.start(api.Mirror, 1, 0, 1000))
	p.through()
	want(t, p.write(3, letters("abcdef")), api.ErrFull)
	p.wantSeen("...a........")
	p.wantStatus(api.Mirror, 1, api.Running, 3)
	p.through()
	ok(t, p.pivot())
	p.wantSeen("...a........")
}

func TestJ4DirtyToACommitNotToAStream(t *testing.T) {
	p := three(t)
	ok(t, p.start(api.Commit, 0, 0, 1000))
	p.wantStatus(api.Commit, 0, api.Running, 2)
	ok(t, p.write(0, letters("x")))
	p.wantStatus(api.Commit, 0, api.Running, 3)
	ok(t, p.cancel())
	ok(t, p.write(4, letters("y")))
	p.wantStatus(api.Commit, 0, api.Aborted, 3) // it goes no more
	ok(t, p.start(api.Stream, 0, 0, 1000))
	p.wantStatus(api.Stream, 0, api.Ready, 0)
	ok(t, p.write(4, letters("z")))
	p.wantStatus(api.Stream, 0, api.Ready, 0)
}

func TestJ4FlushIsTheChains(t *testing.T) {
	p := mirrored(t)
	p.wantStep(true)
	ok(t, p.write(8, letters("x")), p.fail(4, 0))
	want(t, p.blank(4), api.ErrIO)
	ok(t, p.blank(4), p.fail(4, 1))
	want(t, p.blank(4), api.ErrIO) // of it a row is flushed
	p.wantPending(0, 0, 1, 1, 0)
	p.flush()
	p.wantPending(0, 0, 0, 1, 0) // the mirror's file is not the guest's
	ok(t, p.cancel())
	ok(t, p.start(api.Commit, 0, 0, 1000))
	p.through()
	p.wantPending(1, 0, 0, 1, 0)
	p.flush()
	p.wantPending(0, 0, 0, 1, 0)
}

func TestJ5StartsErrorsInOrder(t *testing.T) {
	p := mirrored(t)
	for _, kind := range append([]int{-1, 0, 1, 2, 3, 4}, far...) {
		want(t, p.start(kind, 9, -1, 1001), api.ErrBusy)
	}
	ok(t, p.cancel())
	for _, file := range append([]int{-1, 0, 2, 3, 5}, far...) {
		want(t, p.start(0, file, 0, 0), api.ErrBound)
		want(t, p.start(0, file, 5, 1001), api.ErrBound)
	}
	for _, kind := range append([]int{-1, 4}, far...) {
		want(t, p.start(kind, 2, 0, 0), api.ErrBound)
	}
	for kind := 1; kind <= 3; kind++ {
		for _, n := range append([]int{-1, 1001}, far...) {
			want(t, p.start(kind, 2, n, 0), api.ErrBound)
			want(t, p.start(kind, 2, 0, n), api.ErrBound)
		}
		for _, file := range append([]int{5}, far...) {
			want(t, p.start(kind, file, 0, 0), api.ErrBound)
		}
		want(t, p.start(kind, 2, 0, 0), api.ErrShape) // the root
	}
	want(t, p.start(api.Mirror, -1, 0, 0), api.ErrShape)
	want(t, p.start(api.Commit, -1, 0, 0), api.ErrShape)
	want(t, p.start(api.Mirror, 1, 0, 0), api.ErrShape)
	want(t, p.start(api.Mirror, 4, 0, 0), api.ErrNone)
	want(t, p.start(api.Commit, 3, 0, 0), api.ErrNone)
	want(t, p.start(api.Stream, 4, 0, 0), api.ErrNone)
	p.wantStatus(api.Mirror, 3, api.Aborted, 3)
	p.wantRoot(2)
	ok(t, p.fail(-1, 0))
	want(t, p.start(api.Stream, 4, 0, 0), api.ErrNone) // the desk is not written yet
	want(t, p.start(api.Stream, -1, 0, 0), api.ErrIO)
}

func TestJ5TheJobRuns(t *testing.T) {
	p := three(t)
	ok(t, p.start(api.Commit, 1, 300, 1000))
	p.wantStatus(api.Commit, 1, api.Running, 1)
	p.wantDesk(api.Desk{Root: 2, Kind: api.Commit, File: 1, Rate: 300, Burst: 1000})
	ok(t, p.cancel())
	ok(t, p.start(api.Stream, 1, 0, 0))
	p.wantStatus(api.Stream, 1, api.Ready, 0) // nothing is between
	ok(t, p.cancel())
	ok(t, p.start(api.Stream, -1, 1, 4))
	p.wantStatus(api.Stream, -1, api.Running, 2)
	p.wantStep(true)
	p.wantStep(false)
	ok(t, p.tick(3))
	p.wantStep(false)
	ok(t, p.tick(1))
	p.wantStep(true)
	p.wantStatus(api.Stream, -1, api.Concluded, 0)
}

func TestJ5NoJobGoes(t *testing.T) {
	p := three(t)
	none := func() {
		t.Helper()
		p.wantStepError(api.ErrNone)
		want(t, p.pivot(), api.ErrNone)
		want(t, p.cancel(), api.ErrNone)
		want(t, p.pause(true), api.ErrNone)
		want(t, p.pause(false), api.ErrNone)
		ok(t, p.tick(5))
	}
	none()
	ok(t, p.start(api.Stream, 0, 0, 1000), p.cancel())
	none()
	ok(t, p.start(api.Stream, 0, 0, 1000))
	p.through()
	none()
	ok(t, p.start(api.Commit, 0, 0, 1000))
	p.through()
	ok(t, p.pivot())
	none()
}

func TestJ5AStepThatFailsAborts(t *testing.T) {
	p := mirrored(t)
	p.wantStep(true)
	ok(t, p.fail(3, 4))
	p.wantStepError(api.ErrIO)
	p.wantStatus(api.Mirror, 3, api.Aborted, 2)
	p.wantRoot(2)
	p.wantStepError(api.ErrNone)
	p.wantSeen("aaaabbbbcccc")
	ok(t, p.start(api.Mirror, 3, 0, 1000))
	p.wantStatus(api.Mirror, 3, api.Running, 3)

	p = pairNew(t, 2, 2)
	ok(t, p.write(0, letters("abcdefgh")))
	files, top := p.y.Devs()
	files[1] = devOf(t, spec{"..", 1, -1})
	p = pairOpen(t, files, top)
	ok(t, p.start(api.Mirror, 1, 0, 1000))
	p.wantStep(true)
	p.wantStepError(api.ErrFull)
	p.wantStatus(api.Mirror, 1, api.Aborted, 1)
	p.wantRoot(0)
}

func TestJ5AnAbortWhoseDeskFails(t *testing.T) {
	p := mirrored(t)
	ok(t, p.fail(3, 0), p.fail(-1, 0))
	p.wantStepError(api.ErrIO)
	p.wantStatus(api.Mirror, 3, api.Aborted, 3)
	p.wantDesk(api.Desk{Root: 2, Kind: api.Mirror, File: 3, Burst: 1000})
	p.wantStepError(api.ErrNone)
	c := p.crashed(nil) // it is found again
	c.wantStatus(api.Mirror, 3, api.Paused, 3)
	ok(t, p.snap(3)) // here it goes no more
	p.wantRoot(3)
	p.wantSeen("aaaabbbbcccc")
}

// TestJ5AStepNotNow: an error by which the job is not aborted leaves the desk.
func TestJ5AStepNotNow(t *testing.T) {
	p := mirrored(t)
	ok(t, p.pause(true))
	p.wantStepError(api.ErrState)
	p.wantStatus(api.Mirror, 3, api.Paused, 3)
	p.wantDesk(api.Desk{Root: 2, Kind: api.Mirror, File: 3, Burst: 1000})
	ok(t, p.cancel(), p.start(api.Stream, 1, 0, 0), p.pause(true)) // a stream that would be ready
	p.wantStepError(api.ErrState)
	p.wantStatus(api.Stream, 1, api.Paused, 0)
	p.wantChain(2, 1, 0)
	ok(t, p.pause(false))
	p.wantStep(true)
	p.wantStatus(api.Stream, 1, api.Concluded, 0)
}

func TestJ5AStreamIsConcluded(t *testing.T) {
	for _, x := range []struct {
		file  int
		steps int
		chain []int
	}{{-1, 2, []int{2}}, {0, 1, []int{2, 0}}, {1, 1, []int{2, 1, 0}}} {
		p := three(t)
		ok(t, p.start(api.Stream, x.file, 0, 1000))
		for n := range x.steps {
			p.wantChain(2, 1, 0)
			if n > 0 {
				p.wantStatus(api.Stream, x.file, api.Running, x.steps-n)
			}
			p.wantStep(true)
		}
		p.wantStatus(api.Stream, x.file, api.Concluded, 0)
		p.wantChain(x.chain...)
		p.wantRoot(2)
		p.wantSeen("aaaabbbbcccc")
		if got := p.head(2).Back; got != x.file {
			t.Errorf("Back %d, not %d", got, x.file)
		}
		p.wantStepError(api.ErrNone)
	}
}

// TestJ5AStreamWithoutTokens: none are needed where none are left.
func TestJ5AStreamWithoutTokens(t *testing.T) {
	p := three(t)
	ok(t, p.start(api.Stream, 1, 0, 0))
	p.wantStep(true)
	p.wantStatus(api.Stream, 1, api.Concluded, 0)
	ok(t, p.start(api.Stream, 0, 0, 0))
	p.wantStep(false)
	p.wantStatus(api.Stream, 0, api.Running, 1)
	p.wantChain(2, 1, 0)
	p.wantDesk(api.Desk{Root: 2, Kind: api.Stream, File: 0})
}

func TestJ5AStreamThatIsNotLinked(t *testing.T) {
	p := three(t)
	ok(t, p.start(api.Stream, -1, 0, 1000))
	p.wantStep(true)
	ok(t, p.fail(2, 5)) // a cluster, its row; then the head
	p.wantStepError(api.ErrIO)
	p.wantStatus(api.Stream, -1, api.Aborted, 0)
	p.wantChain(2, 1, 0)
	p.wantRoot(2)
	p.wantSeen("aaaabbbbcccc")

	p = three(t)
	ok(t, p.start(api.Stream, 0, 0, 1000), p.fail(2, 5), p.fail(-1, 0))
	p.wantStepError(api.ErrIO)
	p.wantStatus(api.Stream, 0, api.Aborted, 0)
	p.wantChain(2, 1, 0)
	p.wantDesk(api.Desk{Root: 2, Kind: api.Stream, File: 0, Burst: 1000})
	p.wantStepError(api.ErrNone)
	c := p.crashed(nil)
	c.wantStatus(api.Stream, 0, api.Paused, 0)
	ok(t, c.pause(false))
	c.wantStep(true)
	c.wantChain(2, 0)
	c.wantSeen("aaaabbbbcccc")
}

func TestJ5AConcludedStreamWhoseDeskFails(t *testing.T) {
	p := three(t)
	ok(t, p.start(api.Stream, 0, 0, 1000), p.fail(-1, 0))
	p.wantStep(true)
	p.wantStatus(api.Stream, 0, api.Concluded, 0)
	p.wantChain(2, 0)
	p.wantDesk(api.Desk{Root: 2, Kind: api.Stream, File: 0, Burst: 1000})
	p.wantStepError(api.ErrNone)
	c := p.crashed(nil)
	c.wantIdle() // it is over
	c.wantChain(2, 0)
	ok(t, p.blank(1), p.snap(3))
	p.wantRoot(3)
	p.wantSeen("aaaabbbbcccc")
}

func TestJ6PivotOfAMirror(t *testing.T) {
	p := mirrored(t)
	want(t, p.pivot(), api.ErrState)
	p.wantStep(true)
	want(t, p.pivot(), api.ErrState)
	p.wantStep(true)
	p.wantStep(true)
	p.wantStatus(api.Mirror, 3, api.Ready, 0)
	ok(t, p.pause(true))
	want(t, p.pivot(), api.ErrState)
	ok(t, p.pause(false))
	ok(t, p.write(5, letters("x")))
	want(t, p.pivot(), api.ErrState)
	p.wantStep(true)
	p.wantPending(0, 0, 1, 5, 0) // of the root a row; of the file a row, and a cluster that it had
	ok(t, p.pivot())
	p.wantPending(0, 0, 1, 0, 0) // the file lasts ahead of the desk
	p.wantChain(3)
	p.wantRoot(3)
	p.wantStatus(api.Mirror, 3, api.Concluded, 0)
	p.wantSeen("aaaabxbbcccc")
	ok(t, p.blank(0), p.blank(1), p.blank(2))
	p.wantSeen("aaaabxbbcccc")
}

func TestJ6PivotOfACommit(t *testing.T) {
	for _, x := range []struct {
		file, left int
		chain      []int
	}{{1, 1, []int{1, 0}}, {0, 2, []int{0}}} {
		p := three(t)
		ok(t, p.start(api.Commit, x.file, 0, 1000))
		p.wantStatus(api.Commit, x.file, api.Running, x.left)
		p.through()
		p.wantChain(2, 1, 0)
		ok(t, p.pivot())
		p.wantChain(x.chain...)
		p.wantRoot(x.file)
		p.wantPending(0, 0, 0, 0, 0)
		p.wantStatus(api.Commit, x.file, api.Concluded, 0)
		ok(t, p.blank(2))
		p.wantSeen("aaaabbbbcccc")
	}
}

func TestJ6NoPivotOfAStream(t *testing.T) {
	p := three(t)
	ok(t, p.start(api.Stream, 1, 0, 8)) // ready
	want(t, p.pivot(), api.ErrState)
	p.wantStatus(api.Stream, 1, api.Ready, 0)
	ok(t, p.cancel(), p.start(api.Stream, -1, 0, 8))
	want(t, p.pivot(), api.ErrState)
	p.wantStatus(api.Stream, -1, api.Running, 2)
}

func TestJ6Cancel(t *testing.T) {
	for _, paused := range []bool{false, true} {
		p := mirrored(t)
		p.wantStep(true)
		if paused {
			ok(t, p.pause(true))
		}
		ok(t, p.cancel())
		p.wantStatus(api.Mirror, 3, api.Aborted, 2)
		p.wantRoot(2)
		p.wantChain(2, 1, 0)
		p.crashed(nil).wantIdle()
	}
}

func TestJ6Pause(t *testing.T) {
	p := mirrored(t)
	want(t, p.pause(false), api.ErrState)
	ok(t, p.pause(true))
	p.wantStatus(api.Mirror, 3, api.Paused, 3)
	want(t, p.pause(true), api.ErrState)
	ok(t, p.pause(false))
	p.wantStatus(api.Mirror, 3, api.Running, 3)
}

func TestJ6Tick(t *testing.T) {
	p := three(t)
	bad := append([]int{-1, 100001}, far...)
	for _, n := range bad {
		want(t, p.tick(n), api.ErrBound)
	}
	ok(t, p.tick(0), p.tick(100000), p.blank(3), p.start(api.Mirror, 3, 1, 4))
	p.wantStep(true)
	for _, n := range bad {
		want(t, p.tick(n), api.ErrBound)
	}
	p.wantStep(false)
	ok(t, p.tick(100000))
	p.wantStep(true)
	p.wantStep(false) // no more than its burst
	ok(t, p.cancel(), p.tick(100000))
	for _, n := range bad {
		want(t, p.tick(n), api.ErrBound)
	}
}

func TestJ6StatusOfTheLastJob(t *testing.T) {
	p := mirrored(t)
	ok(t, p.cancel())
	p.wantStatus(api.Mirror, 3, api.Aborted, 3)
	want(t, p.start(api.Mirror, 4, 0, 8), api.ErrNone)
	p.wantStatus(api.Mirror, 3, api.Aborted, 3)
	ok(t, p.start(api.Commit, 1, 0, 8))
	p.wantStatus(api.Commit, 1, api.Running, 1)
	p = p.crashed(nil)
	p.wantStatus(api.Commit, 1, api.Paused, 1)
	ok(t, p.cancel())
	p = p.crashed(nil)
	p.wantIdle()
}

func TestJ7FailOfADevice(t *testing.T) {
	p := three(t)
	ok(t, p.fail(2, 1), p.fail(1, 0))
	ok(t, p.write(8, letters("x")))
	want(t, p.write(9, letters("yz")), api.ErrIO)
	p.wantSeen("aaaabbbbxccc")
	ok(t, p.write(9, letters("yz")))
	p.wantSeen("aaaabbbbxyzc")
	ok(t, p.fail(4, 3), p.fail(4, 0)) // it takes the other's place
	want(t, p.blank(4), api.ErrIO)
	ok(t, p.blank(4), p.fail(-1, 1), p.start(api.Mirror, 4, 0, 8))
	want(t, p.cancel(), api.ErrIO)
	for _, file := range append([]int{5}, far...) {
		want(t, p.fail(file, 0), api.ErrBound)
		want(t, p.fail(file, -1), api.ErrBound)
	}
	for file := -1; file < 5; file++ {
		for _, n := range []int{-1, -2, math.MinInt} {
			want(t, p.fail(file, n), api.ErrBound)
		}
	}
	ok(t, p.fail(3, math.MaxInt), p.blank(3))
}

func TestJ7DevsAreCopies(t *testing.T) {
	p := mirrored(t)
	ok(t, p.write(8, letters("x")), p.fail(2, 0), p.fail(-1, 0))
	a, atop := p.y.Devs()
	b, btop := p.y.Devs()
	want(t, a[2].Write(0, text(1, 'x')), api.ErrIO) // the failures go along
	for _, d := range append(slices.Clone(a), atop) {
		_ = d.Write(0, text(1, 'x'))
		d.Flush()
	}
	p.same(nil, nil)
	sameDev(t, 2, b[2], p.m.files[2])
	sameDev(t, -1, btop, p.m.top)
	want(t, p.write(8, letters("y")), api.ErrIO)
	want(t, p.cancel(), api.ErrIO)
	p.wantSeen("aaaabbbbxccc")
	clear(a)
	if l, top := p.y.Devs(); len(l) != 5 || slices.Contains(l, nil) || top == nil {
		t.Error("the list is the yard's own")
	}
}

func TestJ7Crash(t *testing.T) {
	p := pairNew(t, 2, 3)
	ok(t, p.write(0, letters("abcd")))
	p.flush()
	ok(t, p.snap(1), p.write(0, letters("efgh"))) // a row is pending
	p.flush()
	ok(t, p.write(0, letters("ijk")), p.wipe(4, 4)) // three sectors, a row
	p.wantPending(0, 4, 0, 0, 0)
	for _, x := range []struct {
		keep [][]bool
		seen string
	}{
		{nil, "efgh...."},
		{[][]bool{{true, true, true}}, "efgh...."},
		{[][]bool{nil, {true}}, "ifgh...."},
		{[][]bool{nil, {false, true, false}}, "ejgh...."},
		{[][]bool{nil, {true, false, true, true}}, "ifkh...."},
		{[][]bool{nil, {true, true, true, true, true, true}, {true}, nil, nil, {true}, {true}}, "ijkh...."},
	} {
		c := p.crashed(x.keep)
		c.wantSeen(x.seen)
		c.wantPending(0, 0, 0, 0, 0)
		c.wantChain(1, 0)
	}
	p.wantSeen("ijkh....")
	p.wantPending(0, 4, 0, 0, 0)
}

func TestJ7CrashGoesOnApart(t *testing.T) {
	p := mirrored(t)
	ok(t, p.write(8, letters("x")), p.fail(2, 0), p.fail(-1, 0))
	c := p.crashed([][]bool{nil, nil, {true}})
	c.wantSeen("aaaabbbbxccc")
	c.wantStatus(api.Mirror, 3, api.Paused, 3)
	ok(t, c.write(8, letters("y")), c.cancel()) // no failure is ahead
	p.same(nil, nil)
	p.wantStatus(api.Mirror, 3, api.Running, 3)
	want(t, p.write(8, letters("z")), api.ErrIO)
	c.wantSeen("aaaabbbbyccc")
}

func TestJ7ACrashThatLosesTheDesk(t *testing.T) {
	files := devsOf(t, spec{".", 0, -1}, spec{".", 0, -1})
	s, err := shape.Desk(api.Desk{Root: 1, File: -1})
	ok(t, err)
	top := topOf(t, api.Desk{File: -1})
	ok(t, top.Write(0, s)) // pending
	p := pairOpen(t, files, top)
	p.wantChain(1)
	p.crashed([][]bool{{true}, {true}, {true}, {true}, {true}, {true}}).wantChain(0) // of the desk's nothing is kept

	top, err = dev.New(1)
	ok(t, err, top.Write(0, s))
	p = pairOpen(t, files, top)
	_, err = p.crash(nil)
	want(t, err, api.ErrSum)
	p.wantChain(1)
}

// TestJSession: the document's session, but for what is of lines.
func TestJSession(t *testing.T) {
	p := pairNew(t, 3, 6)
	ok(t, p.write(1, text(3, 65)), p.snap(1), p.wipe(4, 4), p.write(5, text(1, 66)))
	p.wantChain(1, 0)
	want(t, p.start(1, 2, 4, 8), api.ErrNone)
	ok(t, p.blank(2), p.start(1, 2, 4, 8))
	p.wantStatus(1, 2, 1, 3)
	p.wantStep(true)
	p.wantStep(true)
	p.wantStep(false)
	ok(t, p.tick(1))
	p.wantStep(true)
	p.wantStatus(1, 2, 3, 0)
	ok(t, p.write(9, text(1, 67)))
	want(t, p.pivot(), api.ErrState)
	p.wantStatus(1, 2, 1, 1)
	ok(t, p.tick(9))
	p.wantStep(true)
	p.wantStatus(1, 2, 3, 0)
	ok(t, p.pivot())
	p.wantChain(2)
	p.wantSeen(".AAA.B...C..")
	ok(t, p.snap(0), p.write(0, text(1, 68)))
	p.flush()
	ok(t, p.start(3, 2, 0, 1000), p.write(2, text(1, 69)))
	p.wantStep(true)
	ok(t, p.pivot())
	p.wantChain(2)
	ok(t, p.write(3, text(1, 70)))
	p = p.crashed(nil)
	p.wantSeen("DAEA.B...C..")
	ok(t, p.snap(1), p.start(2, -1, 0, 1000))
	p = p.crashed(nil)
	p.wantStatus(2, -1, 2, 3)
	ok(t, p.pause(false))
	for range 3 {
		p.wantStep(true)
	}
	p.wantChain(1)
	p.wantStatus(2, -1, 4, 0)
	ok(t, p.fail(1, 0))
	want(t, p.write(0, text(1, 71)), api.ErrIO)
	p.wantSeen("DAEA.B...C..")
	want(t, p.start(3, 1, 0, 0), api.ErrShape)
	want(t, p.tick(100001), api.ErrBound)
}

// some call, drawn.
func (p *pair) some(r *rand.Rand) {
	p.t.Helper()
	sectors := p.y.Sectors()
	from := r.Intn(sectors+2) - 1
	n := r.Intn(10) - 1
	switch r.Intn(22) {
	case 0, 1, 2:
		_ = p.write(from, text(max(n, 0), byte(r.Intn(4)*r.Intn(60))))
	case 3:
		_ = p.wipe(from, n)
	case 4:
		p.flush()
	case 5:
		_, _ = p.read(from, n)
	case 6:
		_ = p.snap(r.Intn(6))
	case 7:
		_ = p.blank(r.Intn(7) - 1)
	case 8, 9:
		_ = p.start(r.Intn(5), r.Intn(7)-1, r.Intn(9), []int{1000, 1000, 20, -1}[r.Intn(4)])
	case 10, 11, 12, 13, 14, 15:
		_, _ = p.step()
	case 16:
		_ = p.pivot()
	case 17:
		_ = p.pause(r.Intn(2) == 0)
	case 18:
		_ = p.tick(r.Intn(6) - 1)
	case 19, 20:
		_ = p.fail(r.Intn(7)-1, r.Intn(8)-1)
	case 21:
		if r.Intn(4) == 0 {
			_ = p.cancel()
		}
	}
}

// keeps: lists of what is kept, drawn.
func keeps(r *rand.Rand) [][]bool {
	var keep [][]bool
	for range r.Intn(7) {
		var l []bool
		for range r.Intn(16) {
			l = append(l, r.Intn(2) == 0)
		}
		keep = append(keep, l)
	}
	return keep
}

func TestJLongRuns(t *testing.T) {
	r := rand.New(rand.NewSource(9))
	for range 150 {
		clusters := 1 + r.Intn(5)
		p := pairNew(t, clusters, []int{clusters + 2, r.Intn(8)}[r.Intn(2)])
		for range 80 {
			p.some(r)
			if r.Intn(12) == 0 {
				if c, err := p.crash(keeps(r)); err == nil {
					p = c
				}
			}
		}
	}
}
