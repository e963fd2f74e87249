package yard

import (
	"math/rand"
	"slices"
	"strings"
	"testing"

	"stackyard/api"
	"stackyard/dev"
	"stackyard/image"
	"stackyard/shape"
)

// guest of a yard, who knows of sectors alone: what each one is, and what it may be behind a crash (as it was at the last flush, or was made since).
type guest struct {
	t   testing.TB
	y   *Yard
	now []string
	may [][]string
}

func guestOf(t testing.TB, y *Yard) *guest {
	t.Helper()
	g := &guest{t: t, y: y}
	g.now = g.read()
	g.settled()
	return g
}

// settled: each sector is nothing but what it is now.
func (g *guest) settled() {
	g.may = nil
	for _, s := range g.now {
		g.may = append(g.may, []string{s})
	}
}

// read all sectors.
func (g *guest) read() []string {
	g.t.Helper()
	text, err := g.y.Read(0, g.y.Sectors())
	if err != nil || len(text) != 16*g.y.Sectors() {
		g.t.Fatalf("Read = %d bytes, %v", len(text), err)
	}
	var l []string
	for n := range g.y.Sectors() {
		l = append(l, text[16*n:16*n+16])
	}
	return l
}

// look at all sectors behind a call that should have made those from one on what is tried (W1).
func (g *guest) look(from int, tried []string, err error) {
	g.t.Helper()
	for n, s := range g.read() {
		made := g.now[n]
		if n >= from && n < from+len(tried) {
			made = tried[n-from]
		}
		if s != made && (err == nil || s != g.now[n]) {
			g.t.Fatalf("sector %d is %x, not %x (it was %x; error %v)", n, s, made, g.now[n], err)
		}
		g.now[n] = s
		g.may[n] = append(g.may[n], s)
	}
}

func (g *guest) write(from int, l []string) error {
	g.t.Helper()
	err := g.y.Write(from, strings.Join(l, ""))
	if err == api.ErrBound {
		l = nil
	}
	g.look(from, l, err)
	return err
}

func (g *guest) wipe(from, n int) error {
	g.t.Helper()
	err := g.y.Wipe(from, n)
	var l []string
	if err != api.ErrBound {
		l = slices.Repeat([]string{text(1, 0)}, n)
	}
	g.look(from, l, err)
	return err
}

func (g *guest) flush() {
	g.t.Helper()
	g.y.Flush()
	g.look(0, nil, nil)
	g.settled()
}

// alone: what is read hangs on the files of the chain alone (W2): on the others rubbish is laid, or noughts.
func (g *guest) alone() {
	g.t.Helper()
	files, top := g.y.Devs()
	for n := range files {
		if slices.Contains(g.y.Chain(), n) {
			continue
		}
		var err error
		files[n], err = dev.Of(text(12, byte(n)))
		ok(g.t, err)
	}
	y, err := Open(files, top)
	ok(g.t, err)
	other := &guest{t: g.t, y: y}
	if !slices.Equal(other.read(), g.now) || !slices.Equal(y.Chain(), g.y.Chain()) {
		g.t.Fatal("what is read hangs on other files")
	}
}

// crashed: is what is found as it may be (W3)?
func (g *guest) crashed(keep [][]bool) *guest {
	g.t.Helper()
	y, err := g.y.Crash(keep)
	ok(g.t, err)
	if was, is := g.y.Chain(), y.Chain(); !slices.Equal(was, is) {
		g.t.Fatalf("the chain was %v, and is %v", was, is)
	}
	g.sameJob(y)
	c := &guest{t: g.t, y: y}
	c.now = c.read()
	for n, s := range c.now {
		if !slices.Contains(g.may[n], s) {
			g.t.Fatalf("sector %d is %x behind a crash, which it was not since the last flush", n, s)
		}
	}
	c.settled()
	g.look(0, nil, nil) // the yard itself stays
	return c
}

// sameJob: a job that goes is found, paused, but for a stream that has nothing to link.
func (g *guest) sameJob(y *Yard) {
	g.t.Helper()
	was, is := g.y.Status(), y.Status()
	if g.y.goes() == nil {
		return
	}
	head := g.y.shelf[g.y.root].Head()
	if was.Kind == api.Stream && was.File == head.Back {
		if is != (api.Status{File: -1}) {
			g.t.Fatalf("status %v of a stream that is over", is)
		}
		return
	}
	if is.Kind != was.Kind || is.File != was.File || is.State != api.Paused {
		g.t.Fatalf("status %v, behind %v", is, was)
	}
}

// crashes of several kinds: nothing is kept, all, each write alone, all but that, and some that are drawn.
func (g *guest) crashes(r *rand.Rand) {
	g.t.Helper()
	all := func(kept bool) [][]bool {
		var l [][]bool
		for _, d := range g.y.devs {
			l = append(l, slices.Repeat([]bool{kept}, d.Pending()))
		}
		return l
	}
	g.crashed(nil)
	g.crashed(all(true))
	for n, d := range g.y.devs {
		for i := range d.Pending() {
			for _, kept := range []bool{false, true} {
				keep := all(kept)
				keep[n][i] = !kept
				g.crashed(keep)
			}
		}
	}
	for range 3 {
		keep := all(false)
		for _, l := range keep {
			for i := range l {
				l[i] = r.Intn(2) == 0
			}
		}
		g.crashed(keep)
	}
}

// drawn sectors: few bytes, and often noughts.
func drawn(r *rand.Rand, n int) []string {
	var l []string
	for range n {
		l = append(l, text(1, byte(r.Intn(3)*r.Intn(90))))
	}
	return l
}

// some call, drawn; whatever it answers, what is read is as it should be.
func (g *guest) some(r *rand.Rand) {
	g.t.Helper()
	from := r.Intn(g.y.Sectors())
	n := r.Intn(min(9, g.y.Sectors()-from) + 1)
	var err error
	switch r.Intn(26) {
	case 0, 1, 2, 3:
		_ = g.write(from, drawn(r, n))
	case 4, 5:
		_ = g.wipe(from, n)
	case 6:
		g.flush()
	case 7:
		err = g.y.Snap(r.Intn(5))
	case 8, 9:
		err = g.y.Blank(r.Intn(5))
	case 10, 11, 12:
		err = g.y.Start(1+r.Intn(3), r.Intn(6)-1, r.Intn(9), 1000)
	case 13, 14, 15, 16, 17, 18:
		_, err = g.y.Step()
	case 19, 20:
		err = g.y.Pivot()
	case 21:
		err = g.y.Pause(r.Intn(3) == 0)
	case 22:
		err = g.y.Tick(r.Intn(6))
	case 23, 24:
		err = g.y.Fail(r.Intn(6)-1, r.Intn(8))
	case 25:
		if r.Intn(4) == 0 {
			err = g.y.Cancel()
		}
	}
	if _, is := err.(api.Errno); err != nil && !is {
		g.t.Fatalf("error %v", err)
	}
	g.look(0, nil, nil)
}

// runs of calls, with a crash now and then.
func (g *guest) runs(r *rand.Rand, calls int) {
	g.t.Helper()
	for range calls {
		g.some(r)
		if r.Intn(8) == 0 {
			g.alone()
		}
		if r.Intn(8) == 0 {
			g.crashes(r)
		}
		if r.Intn(12) == 0 {
			g = g.crashed(keeps(r))
		}
	}
}

func TestW1W2W3LongRuns(t *testing.T) {
	r := rand.New(rand.NewSource(13))
	for range 120 {
		clusters := 1 + r.Intn(4)
		y, err := New(clusters, []int{clusters + 2, clusters, r.Intn(6)}[r.Intn(3)])
		ok(t, err)
		guestOf(t, y).runs(r, 120)
	}
}

// jobsOver three files: each kind of job, and what is done to bring it to its end.
var jobsOver = []api.Desk{{Kind: api.Mirror, File: 3}, {Kind: api.Stream, File: -1}, {Kind: api.Stream, File: 0}, {Kind: api.Commit, File: 0}, {Kind: api.Commit, File: 1}}

// job of a desk over three files, with a guest who writes meanwhile; whatever fails, it goes on. Behind each call there are crashes.
func (g *guest) job(r *rand.Rand, d api.Desk) {
	g.t.Helper()
	_ = g.y.Start(d.Kind, d.File, 0, 1000)
	g.crashes(r)
	for n := range 5 {
		_, _ = g.y.Step()
		g.look(0, nil, nil)
		g.crashes(r)
		if n == 1 {
			_ = g.write(3, drawn(r, 6))
			g.crashes(r)
			_ = g.wipe(0, 5)
			g.crashes(r)
		}
	}
	_ = g.y.Pivot()
	g.look(0, nil, nil)
	g.crashes(r)
	_ = g.y.Snap(4)
	g.look(0, nil, nil)
	_ = g.write(2, drawn(r, 9))
	g.crashes(r)
	g.alone()
}

// TestW1W3EachWriteThatFails: of each device each write of a job's way.
func TestW1W3EachWriteThatFails(t *testing.T) {
	r := rand.New(rand.NewSource(14))
	for _, d := range jobsOver {
		for file := -1; file < 5; file++ {
			for n := range 16 {
				p := three(t)
				ok(t, p.y.Blank(3), p.y.Fail(file, n))
				guestOf(t, p.y).job(r, d)
			}
		}
	}
}

func TestW2BehindAPivot(t *testing.T) {
	for _, x := range []struct {
		desk  api.Desk
		files []int // that what is read hangs on
	}{
		{api.Desk{Kind: api.Mirror, File: 3}, []int{3}},
		{api.Desk{Kind: api.Commit, File: 0}, []int{0}},
		{api.Desk{Kind: api.Commit, File: 1}, []int{0, 1}},
		{api.Desk{Kind: api.Stream, File: -1}, []int{2}},
		{api.Desk{Kind: api.Stream, File: 0}, []int{0, 2}},
	} {
		p := three(t)
		ok(t, p.blank(3), p.start(x.desk.Kind, x.desk.File, 0, 1000))
		p.through()
		if x.desk.Kind != api.Stream {
			ok(t, p.pivot())
		}
		files, top := p.y.Devs()
		for n := range files {
			if !slices.Contains(x.files, n) {
				files[n] = devOf(t, spec{})
			}
		}
		pairOpen(t, files, top).wantSeen("aaaabbbbcccc")
		for n := range 5 {
			var e error
			if slices.Contains(x.files, n) {
				e = api.ErrExist
			}
			want(t, p.blank(n), e)
		}
		p.wantSeen("aaaabbbbcccc")
	}
}

func TestW4AsManyStepsAsAreLeft(t *testing.T) {
	r := rand.New(rand.NewSource(15))
	for range 200 {
		y, err := New(1+r.Intn(32), 40)
		ok(t, err)
		g := guestOf(t, y)
		for n := 1; n < 4; n++ {
			for range 12 {
				from := r.Intn(y.Sectors())
				_ = g.write(from, drawn(r, r.Intn(min(9, y.Sectors()-from)+1)))
			}
			if n < 3 {
				ok(t, y.Snap(n))
			}
		}
		ok(t, y.Blank(3))
		d := []api.Desk{{Kind: api.Mirror, File: 3}, {Kind: api.Stream, File: -1}, {Kind: api.Stream, File: 0}, {Kind: api.Commit, File: 0}, {Kind: api.Commit, File: 1}}[r.Intn(5)]
		ok(t, y.Start(d.Kind, d.File, 0, 1000))
		left := y.Status().Left
		for n := range left {
			if got := y.Status(); got.State != api.Running || got.Left != left-n {
				t.Fatalf("status %v, %d steps of %d", got, n, left)
			}
			if did, err := y.Step(); !did || err != nil {
				t.Fatalf("Step() = %v, %v", did, err)
			}
			g.look(0, nil, nil)
		}
		through := api.Ready
		if d.Kind == api.Stream && left > 0 {
			through = api.Concluded
		}
		if got := y.Status(); got.State != through || got.Left != 0 {
			t.Fatalf("status %v behind %d steps", got, left)
		}
	}
}

func TestW4NeverFasterThanItMay(t *testing.T) {
	r := rand.New(rand.NewSource(16))
	for range 100 {
		y, err := New(8, 10)
		ok(t, err)
		rate, burst := r.Intn(6), r.Intn(30)
		ok(t, y.Blank(1), y.Start(api.Mirror, 1, rate, burst))
		taken, ticks := 0, 0
		for range 60 {
			switch r.Intn(4) {
			case 0:
				n := r.Intn(3)
				ok(t, y.Tick(n))
				ticks += n
			case 1:
				ok(t, y.Write(r.Intn(32), text(1, 'x')))
			default:
				did, err := y.Step()
				ok(t, err)
				if did {
					taken += 4
				}
			}
			if taken > burst+rate*ticks {
				t.Fatalf("%d taken, of burst %d, rate %d, %d ticks", taken, burst, rate, ticks)
			}
		}
	}
}

// anyDev: noughts, rubbish, or an image of drawn numbers, with a row of its table drawn, or a bit of it turned.
func anyDev(t testing.TB, r *rand.Rand, clusters int) *dev.Dev {
	t.Helper()
	if r.Intn(6) == 0 {
		d, err := dev.Of(text(1+r.Intn(200), byte(r.Intn(3)))) // some have room for more places than an image may have
		ok(t, err)
		return d
	}
	h := api.Head{Clusters: clusters, Places: r.Intn(7), Back: []int{-1, -1, r.Intn(5)}[r.Intn(3)]}
	if r.Intn(8) == 0 {
		h.Clusters = 1 + r.Intn(9)
	}
	s, err := shape.Head(h)
	ok(t, err)
	b := []byte(s)
	for range shape.Rows(h.Clusters) {
		row := make([]byte, 16)
		for c := range min(8, h.Clusters) {
			row[2*c] = byte(r.Intn(3))
			if row[2*c] == api.Data {
				row[2*c+1] = byte(r.Intn(h.Places + 1))
			}
		}
		b = append(b, row...)
	}
	for len(b) < 16*(image.Need(h)+r.Intn(3)) {
		b = append(b, text(1, byte('a'+r.Intn(26)))...)
	}
	if r.Intn(8) == 0 {
		b[r.Intn(min(len(b), 32))] ^= 1 << r.Intn(8)
	}
	d, err := dev.Of(string(b[:len(b)/16*16]))
	ok(t, err)
	return d
}

func TestW5WhateverStandsOnDevices(t *testing.T) {
	r := rand.New(rand.NewSource(17))
	opened, jobs := 0, 0
	for range 4000 {
		clusters := 1 + r.Intn(3)
		var files []*dev.Dev
		for range 5 {
			files = append(files, anyDev(t, r, clusters))
		}
		d := api.Desk{Root: r.Intn(5), File: -1}
		if r.Intn(2) == 0 {
			d = api.Desk{Root: d.Root, Kind: 1 + r.Intn(3), File: r.Intn(6) - 1, Rate: r.Intn(5), Burst: r.Intn(1001)}
			if shape.CheckDesk(d) != nil {
				d = api.Desk{File: -1}
			}
		}
		p, err := tryOpen(t, files, topOf(t, d))
		if err != nil {
			continue
		}
		opened++
		if p.y.goes() != nil {
			jobs++
		}
		for range 6 {
			p.some(r)
		}
		y, err := Open(files, topOf(t, d))
		ok(t, err)
		guestOf(t, y).runs(r, 25)
	}
	if opened < 300 || jobs < 50 {
		t.Fatalf("%d were opened, %d with a job", opened, jobs)
	}
}

func TestW5RubbishOnTheDesk(t *testing.T) {
	r := rand.New(rand.NewSource(18))
	for range 300 {
		b := make([]byte, 16*(1+r.Intn(3)))
		r.Read(b)
		top, err := dev.Of(string(b))
		ok(t, err)
		_, err = tryOpen(t, devsOf(t, spec{".", 0, -1}), top)
		want(t, err, api.ErrSum)
	}
}

// TestZ1AnyNumbers: each call ends, and none panics.
func TestZ1AnyNumbers(t *testing.T) {
	numbers := append([]int{-1, 0, 1, 2, 3, 4, 5, 12, 32, 40, 1000, 1001}, far...)
	p := mirrored(t)
	for _, a := range numbers {
		for _, b := range numbers {
			_, _ = p.read(a, b)
			_ = p.wipe(a, b)
			_ = p.fail(a, b)
			_ = p.start(a, b, 0, 8)
			_ = p.start(api.Stream, -1, a, b)
			_, _ = tryNew(t, a, b)
			_, _ = p.step()
		}
		_ = p.blank(a)
		_ = p.write(a, text(2, 'x'))
		_ = p.tick(a)
		_ = p.snap(a)
		_ = p.cancel()
	}
}

func TestZ2NothingIsShared(t *testing.T) {
	p := mirrored(t)
	l := p.y.Chain()
	for n := range l {
		l[n] = 4
	}
	p.wantChain(2, 1, 0)
	files := slices.Clone(p.m.files)
	o := pairOpen(t, files, p.m.top)
	clear(files)
	o.same(nil, nil)
	o.wantSeen("aaaabbbbcccc")
	a, b := three(t), three(t)
	ok(t, a.write(0, letters("x")), a.fail(2, 0))
	ok(t, b.write(1, letters("y")))
	b.wantSeen("ayaabbbbcccc")
}

func TestZ2KeepIsNotWrittenInto(t *testing.T) {
	p := three(t)
	ok(t, p.write(8, letters("xyz")))
	keep := [][]bool{{true}, nil, {true, false, true, true, true}}
	p.crashed(keep).wantSeen("aaaabbbbxczc")
	if len(keep) != 3 || !slices.Equal(keep[0], []bool{true}) || keep[1] != nil || !slices.Equal(keep[2], []bool{true, false, true, true, true}) {
		t.Errorf("keep is %v", keep)
	}
	p.crashed(keep[:2]).wantSeen("aaaabbbbcccc") // what stands behind a list is not read
	p.crashed([][]bool{nil, nil, keep[2][:1]}).wantSeen("aaaabbbbxccc")
}
