package image

import (
	"math"
	"math/rand"
	"reflect"
	"strings"
	"testing"

	"stackyard/api"
	"stackyard/dev"
)

// far: numbers that no bound lets through.
var far = []int{math.MinInt, math.MinInt + 1, -1 << 32, -256, -2, -1, 256, 1 << 32, math.MaxInt / 16, math.MaxInt - 1, math.MaxInt}

var noughts = strings.Repeat("\x00", 64)

// text of so many sectors, each another one.
func text(sectors int, b byte) string {
	var l []byte
	for n := range sectors * 16 {
		l = append(l, b+byte(n/16)*16+byte(n%16))
	}
	return string(l)
}

// rubbish of so many sectors, of which none is a head's or a row's.
func rubbish(sectors int) string {
	l := make([]byte, sectors*16)
	for n := range l {
		l[n] = byte(200 + n/16%50)
	}
	return string(l)
}

func devOf(t testing.TB, s string) *dev.Dev {
	t.Helper()
	d, err := dev.Of(s)
	if err != nil {
		t.Fatalf("dev.Of: %v", err)
	}
	return d
}

// pair: an image, and what the document says of it. Each call is made of both, and all that is to be seen is held against the model.
type pair struct {
	t *testing.T
	i *Image
	m *model
}

// newPair on a device of rubbish, with some sectors more than are needed.
func newPair(t *testing.T, h api.Head, more int) *pair {
	t.Helper()
	s := rubbish(modelNeed(h) + more)
	d, md := devOf(t, s), modelDevOf(s)
	i, err := Create(d, h)
	m, merr := modelCreate(md, h)
	if err != nil || merr != nil {
		t.Fatalf("Create(%v): %v, %v", h, err, merr)
	}
	p := &pair{t, i, m}
	p.same(err, merr)
	return p
}

func (p *pair) same(err, want error) {
	p.t.Helper()
	if err != want {
		p.t.Fatalf("error %v, not %v", err, want)
	}
	same(p.t, p.i, p.m)
	reopened(p.t, p.i, p.m)
}

func (p *pair) write(c, from int, s string) error {
	p.t.Helper()
	err := p.i.Write(c, from, s)
	p.same(err, p.m.write(c, from, s))
	return err
}

func (p *pair) fill(c int, s string) error {
	p.t.Helper()
	err := p.i.Fill(c, s)
	p.same(err, p.m.fill(c, s))
	return err
}

func (p *pair) clear(c int) error {
	p.t.Helper()
	err := p.i.Clear(c)
	p.same(err, p.m.clear(c))
	return err
}

func (p *pair) flush() {
	p.t.Helper()
	p.i.Flush()
	p.m.flush()
	p.same(nil, nil)
}

func (p *pair) link(back int) error {
	p.t.Helper()
	err := p.i.Link(back)
	p.same(err, p.m.link(back))
	return err
}

// fail: the write behind n more fails.
func (p *pair) fail(n int) {
	p.t.Helper()
	if err := p.i.Dev().Fail(n); err != nil {
		p.t.Fatal(err)
	}
	p.m.d.fail = n
}

// noFail: as if none were ahead any more.
func (p *pair) noFail() {
	p.t.Helper()
	p.fail(1 << 30)
}

// crash: the pair goes on with what that leaves.
func (p *pair) crash(keep []bool) {
	p.t.Helper()
	d, md := p.i.Dev().Crash(keep), p.m.d.crash(keep)
	i, err := Open(d)
	m, merr := modelOpen(md)
	if err != nil || merr != nil {
		p.t.Fatalf("behind a crash: %v, %v", err, merr)
	}
	p.i, p.m = i, m
	p.same(nil, nil)
}

// copied: a pair apart, the same in all but what is held.
func (p *pair) copied() *pair {
	p.t.Helper()
	d := p.i.Dev().Copy()
	i, err := Open(d)
	if err != nil {
		p.t.Fatal(err)
	}
	md := *p.m.d
	md.flushed = append([]string(nil), md.flushed...)
	md.pending = append([]modelWrite(nil), md.pending...)
	m, err := modelOpen(&md)
	if err != nil {
		p.t.Fatal(err)
	}
	return &pair{p.t, i, m}
}

// want: a call of a pair answers that.
func want(t *testing.T, got, want error) {
	t.Helper()
	if got != want {
		t.Fatalf("error %v, not %v", got, want)
	}
}

// wantRead of a cluster.
func (p *pair) wantRead(c int, s string) {
	p.t.Helper()
	if got, err := p.i.Read(c); got != s || err != nil {
		p.t.Fatalf("Read(%d) = %x, %v, not %x", c, got, err, s)
	}
}

// wantKind of a cluster.
func (p *pair) wantKind(c, kind int) {
	p.t.Helper()
	if got, err := p.i.Kind(c); got != kind || err != nil {
		p.t.Fatalf("Kind(%d) = %d, %v, not %d", c, got, err, kind)
	}
}

// wantPlace: what stands at a place of the device.
func (p *pair) wantPlace(place int, s string) {
	p.t.Helper()
	first := 1 + (p.i.Head().Clusters+7)/8 + 4*place
	var got string
	for n := range 4 {
		x, err := p.i.Dev().Read(first + n)
		if err != nil {
			p.t.Fatal(err)
		}
		got += x
	}
	if got != s {
		p.t.Fatalf("at place %d: %x, not %x", place, got, s)
	}
}

func (p *pair) wantFree(n int) {
	p.t.Helper()
	if got := p.i.Free(); got != n {
		p.t.Fatalf("Free() = %d, not %d", got, n)
	}
}

func (p *pair) wantPending(n int) {
	p.t.Helper()
	if got := p.i.Dev().Pending(); got != n {
		p.t.Fatalf("Pending() = %d, not %d", got, n)
	}
}

// everyHead that may be.
func everyHead(f func(h api.Head)) {
	for clusters := 1; clusters <= 32; clusters++ {
		for places := 0; places <= 40; places++ {
			for back := -1; back <= 4; back++ {
				f(api.Head{Clusters: clusters, Places: places, Back: back})
			}
		}
	}
}

func TestD1NeedOfEveryHead(t *testing.T) {
	everyHead(func(h api.Head) {
		if got := Need(h); got != modelNeed(h) {
			t.Fatalf("Need(%v) = %d, not %d", h, got, modelNeed(h))
		}
	})
	for h, n := range map[api.Head]int{
		{Clusters: 1, Places: 0, Back: -1}:   2,
		{Clusters: 8, Places: 1, Back: 0}:    6,
		{Clusters: 9, Places: 1, Back: 0}:    7,
		{Clusters: 3, Places: 6, Back: -1}:   26,
		{Clusters: 32, Places: 40, Back: 4}:  165,
		{Clusters: 25, Places: 40, Back: 4}:  165,
		{Clusters: 24, Places: 40, Back: -1}: 164,
	} {
		if got := Need(h); got != n {
			t.Errorf("Need(%v) = %d, not %d", h, got, n)
		}
	}
}

// Nothing is said of such heads but that a call ends.
func TestD1NeedEndsAtNoHeads(t *testing.T) {
	for _, n := range far {
		Need(api.Head{Clusters: n, Places: n, Back: n})
		Need(api.Head{Clusters: n})
		Need(api.Head{Places: n})
	}
}

func TestD1CreateEveryHead(t *testing.T) {
	for _, clusters := range []int{1, 2, 7, 8, 9, 16, 17, 24, 25, 31, 32} {
		for _, places := range []int{0, 1, 2, 39, 40} {
			for back := -1; back <= 4; back++ {
				h := api.Head{Clusters: clusters, Places: places, Back: back}
				p := newPair(t, h, 0)
				if p.i.Head() != h {
					t.Fatalf("Head() = %v, not %v", p.i.Head(), h)
				}
				p.wantFree(places)
				p.wantPending(0)
				for c := range clusters {
					p.wantKind(c, api.Absent)
				}
			}
		}
	}
}

// On a device with rubbish the head and the rows stand, and all the rest stays.
func TestD1CreateBytes(t *testing.T) {
	old := rubbish(200)
	d := devOf(t, old)
	if _, err := Create(d, api.Head{Clusters: 17, Places: 40, Back: 2}); err != nil {
		t.Fatal(err)
	}
	wanted := modelHead(api.Head{Clusters: 17, Places: 40, Back: 2}) + strings.Repeat("\x00", 48) + old[64:]
	if d.Bytes() != wanted {
		t.Errorf("Bytes() = %x, not %x", d.Bytes(), wanted)
	}
	if d.Pending() != 0 || d.Writes() != 4 {
		t.Errorf("%d pending, %d writes", d.Pending(), d.Writes())
	}
}

func TestD1CreateOnTooFewSectors(t *testing.T) {
	for _, h := range []api.Head{{Clusters: 1, Places: 0, Back: -1}, {Clusters: 8, Places: 3, Back: 1}, {Clusters: 9, Places: 3, Back: 1}, {Clusters: 32, Places: 40, Back: 4}} {
		for less := 1; less <= 5 && modelNeed(h)-less >= 1; less++ {
			old := rubbish(modelNeed(h) - less)
			d := devOf(t, old)
			if i, err := Create(d, h); i != nil || err != api.ErrBound {
				t.Fatalf("Create(%d sectors, %v) = %v, %v", d.Size(), h, i, err)
			}
			sameDev(t, d, modelDevOf(old))
		}
	}
}

func TestD1CreateOfNoHead(t *testing.T) {
	l := []api.Head{{}, {Clusters: 0, Places: 1, Back: -1}, {Clusters: 33, Places: 1, Back: -1}, {Clusters: 1, Places: -1, Back: -1}, {Clusters: 1, Places: 41, Back: -1}, {Clusters: 1, Places: 1, Back: -2}, {Clusters: 1, Places: 1, Back: 5}}
	for _, n := range far {
		if n != -1 {
			l = append(l, api.Head{Clusters: 1, Places: 1, Back: n})
		}
		l = append(l, api.Head{Clusters: n, Places: 1, Back: -1}, api.Head{Clusters: 1, Places: n, Back: -1}, api.Head{Clusters: n, Places: n, Back: n})
	}
	for _, h := range l {
		for _, sectors := range []int{1, 10, 200} {
			old := rubbish(sectors)
			d := devOf(t, old)
			if i, err := Create(d, h); i != nil || err != api.ErrBound {
				t.Fatalf("Create(%v) = %v, %v", h, i, err)
			}
			sameDev(t, d, modelDevOf(old))
		}
	}
}

// At each write Create may fail: the rows come first, in order, and last; the head behind them.
func TestD1CreateFails(t *testing.T) {
	for _, clusters := range []int{1, 8, 9, 32} {
		h := api.Head{Clusters: clusters, Places: 2, Back: 3}
		rows := (clusters + 7) / 8
		for n := 0; n <= rows+1; n++ {
			old := rubbish(modelNeed(h) + 1)
			d, md := devOf(t, old), modelDevOf(old)
			if err := d.Fail(n); err != nil {
				t.Fatal(err)
			}
			md.fail = n
			i, err := Create(d, h)
			_, merr := modelCreate(md, h)
			if err != merr || (i == nil) != (err != nil) {
				t.Fatalf("Create with Fail(%d) = %v, %v, not %v", n, i, err, merr)
			}
			sameDev(t, d, md)
			wantCreated(t, d, old, rows, n)
		}
	}
}

// wantCreated: what a Create leaves whose n-th write failed (from 0 on).
func wantCreated(t *testing.T, d *dev.Dev, old string, rows, n int) {
	t.Helper()
	if n > rows {
		return
	}
	o, err := Open(d)
	if o != nil || err != api.ErrSum {
		t.Errorf("Open = %v, %v, where no head was written", o, err)
	}
	if n < rows && (d.Pending() != n || d.Bytes() != old) {
		t.Errorf("Fail(%d): %d pending", n, d.Pending())
	}
	if n == rows && (d.Pending() != 0 || d.Bytes() != old[:16]+strings.Repeat("\x00", 16*rows)+old[16+16*rows:]) {
		t.Errorf("the head failed: %d pending, %x", d.Pending(), d.Bytes())
	}
}

// What is pending ahead of a Create is flushed by it.
func TestD1CreateFlushesWhatIsPending(t *testing.T) {
	h := api.Head{Clusters: 2, Places: 1, Back: -1}
	d := devOf(t, rubbish(8))
	for n := range 8 {
		if err := d.Write(n, text(1, byte(n))); err != nil {
			t.Fatal(err)
		}
	}
	if _, err := Create(d, h); err != nil {
		t.Fatal(err)
	}
	wanted := modelHead(h) + noughts[:16]
	for n := 2; n < 8; n++ {
		wanted += text(1, byte(n))
	}
	if d.Bytes() != wanted || d.Pending() != 0 || d.Writes() != 10 {
		t.Errorf("Bytes() = %x, %d pending, %d writes", d.Bytes(), d.Pending(), d.Writes())
	}
}

// An image over an old one: nothing of that is seen.
func TestD1CreateOverAnother(t *testing.T) {
	p := newPair(t, api.Head{Clusters: 9, Places: 3, Back: 1}, 4)
	want(t, p.fill(8, text(4, 1)), nil)
	want(t, p.clear(0), nil)
	h := api.Head{Clusters: 10, Places: 4, Back: -1}
	i, err := Create(p.i.Dev(), h)
	want(t, err, nil)
	m, err := modelCreate(p.m.d, h)
	want(t, err, nil)
	p.i, p.m = i, m
	p.same(nil, nil)
	p.wantKind(8, api.Absent)
	p.wantFree(4)
}

// An image as it stands: every kind of entry, in several rows, at places in no order.
func standing(h api.Head, rows ...string) string {
	s := modelHead(h) + strings.Join(rows, "")
	for n := range h.Places {
		s += text(4, byte(10+5*n))
	}
	return s
}

func TestD1OpenWhatStands(t *testing.T) {
	h := api.Head{Clusters: 10, Places: 5, Back: 4}
	s := standing(h, "\x00\x00\x01\x00\x02\x04\x02\x00\x00\x00\x01\x00\x00\x00\x02\x02", "\x02\x03\x01\x00"+strings.Repeat("\x00", 12))
	d, md := devOf(t, s), modelDevOf(s)
	i, err := Open(d)
	want(t, err, nil)
	m, err := modelOpen(md)
	want(t, err, nil)
	p := &pair{t, i, m}
	p.same(nil, nil)
	if i.Head() != h || i.Dev() != d {
		t.Errorf("Head() = %v, Dev() = %p", i.Head(), i.Dev())
	}
	for c, kind := range []int{0, 1, 2, 2, 0, 1, 0, 2, 2, 1} {
		p.wantKind(c, kind)
	}
	p.wantRead(2, text(4, 30))
	p.wantRead(3, text(4, 10))
	p.wantRead(7, text(4, 20))
	p.wantRead(8, text(4, 25))
	p.wantRead(9, noughts)
	p.wantFree(1)
	if d.Writes() != 0 || d.Pending() != 0 || d.Bytes() != s {
		t.Error("Open wrote")
	}
}

// refused: such bytes are no image, and stay as they are.
func refused(t *testing.T, s string, wanted error) {
	t.Helper()
	d := devOf(t, s)
	if i, err := Open(d); i != nil || err != wanted {
		t.Errorf("Open = %v, %v, not %v", i, err, wanted)
	}
	sameDev(t, d, modelDevOf(s))
}

func TestD1OpenRefuses(t *testing.T) {
	h := api.Head{Clusters: 9, Places: 2, Back: -1}
	none, bad := strings.Repeat("\x00", 16), "\x03"+strings.Repeat("\x00", 15)
	refused(t, rubbish(1), api.ErrSum)
	refused(t, rubbish(200), api.ErrSum)
	refused(t, strings.Repeat("\x00", 3200), api.ErrSum)
	good := standing(h, none, none)
	for at := range 16 {
		refused(t, good[:at]+string([]byte{good[at] ^ 1})+good[at+1:], api.ErrSum)
	}
	for _, no := range []api.Head{{Clusters: 0, Places: 2, Back: -1}, {Clusters: 33, Places: 2, Back: -1}, {Clusters: 9, Places: 41, Back: -1}, {Clusters: 9, Places: 2, Back: 5}} {
		refused(t, modelHead(no)+good[16:], api.ErrShape)
	}
	refused(t, standing(h, none, bad), api.ErrShape)
	refused(t, standing(h, bad, none), api.ErrShape)
	refused(t, standing(h, none, "\x00\x00\x01"+none[3:]), api.ErrShape) // behind the last entry
	refused(t, standing(h, none, "\x02\x02"+none[2:]), api.ErrShape)     // no such place
	refused(t, standing(h, "\x02\x01"+none[2:], "\x02\x01"+none[2:]), api.ErrShape)
	refused(t, standing(h, "\x01\x01"+none[2:], none), api.ErrShape)
}

// Of several errors the first is told: the head's, that of too few sectors, the table's.
func TestD1OpenTellsTheFirst(t *testing.T) {
	h := api.Head{Clusters: 9, Places: 2, Back: -1}
	none, bad := strings.Repeat("\x00", 16), strings.Repeat("\xff", 16)
	for size := 1; size < modelNeed(h); size++ {
		refused(t, standing(h, none, none)[:16*size], api.ErrBound)
		refused(t, standing(h, bad, bad)[:16*size], api.ErrBound)
		refused(t, "s"+standing(h, bad, bad)[1:16*size], api.ErrSum)
		refused(t, modelHead(api.Head{Clusters: 33, Places: 2, Back: -1})+standing(h, bad, bad)[16:16*size], api.ErrShape)
	}
	refused(t, standing(h, bad, bad), api.ErrShape)
	refused(t, standing(h, bad, bad)+none, api.ErrShape)
	if _, err := Open(devOf(t, standing(h, none, none))); err != nil {
		t.Errorf("Open of just so many sectors: %v", err)
	}
}

// Open sees what is pending, and leaves it so; a Fail stays ahead.
func TestD1OpenWritesNothing(t *testing.T) {
	h := api.Head{Clusters: 3, Places: 1, Back: 0}
	s := rubbish(6)
	d, md := devOf(t, s), modelDevOf(s)
	for at, x := range []string{modelHead(h), "\x01\x00\x02\x00" + strings.Repeat("\x00", 12), text(1, 5)} {
		want(t, d.Write(at, x), nil)
		want(t, md.write(at, x), nil)
	}
	want(t, d.Fail(1), nil)
	md.fail = 1
	i, err := Open(d)
	want(t, err, nil)
	m, err := modelOpen(md)
	want(t, err, nil)
	p := &pair{t, i, m}
	p.same(nil, nil)
	p.wantRead(1, text(1, 5)+s[48:])
	want(t, p.clear(2), nil)
	want(t, p.clear(1), api.ErrIO)
	want(t, p.clear(1), nil)
}

func TestD1DeviceIsKept(t *testing.T) {
	d := devOf(t, rubbish(10))
	i, err := Create(d, api.Head{Clusters: 1, Places: 2, Back: -1})
	want(t, err, nil)
	if i.Dev() != d {
		t.Error("Dev() is another one")
	}
	want(t, i.Fill(0, text(4, 9)), nil)
	want(t, d.Write(3, text(1, 99)), nil)
	if s, err := i.Read(0); s != text(4, 9)[:16]+text(1, 99)+text(4, 9)[32:] || err != nil {
		t.Errorf("Read(0) = %x, %v", s, err)
	}
}

func TestD2KindAndRead(t *testing.T) {
	p := newPair(t, api.Head{Clusters: 10, Places: 3, Back: -1}, 2)
	want(t, p.fill(9, text(4, 1)), nil)
	want(t, p.clear(8), nil)
	want(t, p.fill(0, text(4, 100)), nil)
	p.wantKind(9, api.Data)
	p.wantKind(8, api.Zero)
	p.wantKind(0, api.Data)
	p.wantKind(1, api.Absent)
	p.wantRead(9, text(4, 1))
	p.wantRead(8, noughts)
	p.wantRead(0, text(4, 100))
	if s, err := p.i.Read(1); s != "" || err != api.ErrNone {
		t.Errorf("Read of Absent = %x, %v", s, err)
	}
}

func TestD2NoSuchCluster(t *testing.T) {
	for _, clusters := range []int{1, 8, 9, 32} {
		p := newPair(t, api.Head{Clusters: clusters, Places: 2, Back: -1}, 0)
		want(t, p.fill(clusters-1, text(4, 3)), nil)
		for _, c := range append([]int{clusters, clusters + 1, clusters + 8, 40}, far...) {
			if kind, err := p.i.Kind(c); kind != 0 || err != api.ErrBound {
				t.Errorf("Kind(%d) = %d, %v", c, kind, err)
			}
			if s, err := p.i.Read(c); s != "" || err != api.ErrBound {
				t.Errorf("Read(%d) = %x, %v", c, s, err)
			}
			want(t, p.write(c, 0, text(1, 1)), api.ErrBound)
			want(t, p.fill(c, text(4, 1)), api.ErrBound)
			want(t, p.clear(c), api.ErrBound)
		}
	}
}

// A place is used, held behind that till a flush, then free.
func TestD2Free(t *testing.T) {
	p := newPair(t, api.Head{Clusters: 4, Places: 3, Back: -1}, 0)
	p.wantFree(3)
	for c := range 3 {
		want(t, p.fill(c, text(4, byte(c))), nil)
		p.wantFree(2 - c)
	}
	want(t, p.fill(3, text(4, 3)), api.ErrFull)
	want(t, p.clear(1), nil)
	p.wantFree(0)
	want(t, p.clear(2), nil)
	p.wantFree(0)
	want(t, p.fill(3, text(4, 3)), api.ErrFull)
	want(t, p.fill(1, text(4, 3)), api.ErrFull)
	p.flush()
	p.wantFree(2)
	want(t, p.fill(1, text(4, 50)), nil)
	p.wantFree(1)
	p.wantPlace(1, text(4, 50))
}

func TestD2NoPlaces(t *testing.T) {
	p := newPair(t, api.Head{Clusters: 2, Places: 0, Back: 1}, 0)
	p.wantFree(0)
	want(t, p.fill(0, text(4, 1)), api.ErrFull)
	want(t, p.clear(0), nil)
	want(t, p.fill(0, text(4, 1)), api.ErrFull)
	want(t, p.write(0, 0, text(1, 1)), api.ErrNone)
	p.flush()
	p.wantFree(0)
	p.wantRead(0, noughts)
}

// A place is held by this image alone: one that is opened on what stands there doesn't know of it.
func TestD2HeldIsNotOnTheDevice(t *testing.T) {
	p := newPair(t, api.Head{Clusters: 2, Places: 1, Back: 1}, 0)
	want(t, p.fill(0, text(4, 1)), nil)
	want(t, p.clear(0), nil)
	p.wantFree(0)
	o, err := Open(p.i.Dev())
	want(t, err, nil)
	if o.Free() != 1 {
		t.Errorf("Free() = %d of an image that was opened", o.Free())
	}
}

func TestD3WriteSectors(t *testing.T) {
	for from := 0; from <= 4; from++ {
		for n := 0; n <= 4-from; n++ {
			p := newPair(t, api.Head{Clusters: 9, Places: 3, Back: -1}, 1)
			for c, x := range []byte{40, 80, 120} {
				want(t, p.fill(c*4, text(4, x)), nil)
			}
			p.flush()
			want(t, p.write(4, from, text(n, 200)), nil)
			old := text(4, 80)
			p.wantRead(4, old[:16*from]+text(n, 200)+old[16*(from+n):])
			p.wantRead(0, text(4, 40))
			p.wantRead(8, text(4, 120))
			p.wantPending(n)
			p.wantFree(0)
		}
	}
}

func TestD3WriteOutOfBounds(t *testing.T) {
	p := newPair(t, api.Head{Clusters: 3, Places: 3, Back: -1}, 1)
	want(t, p.fill(1, text(4, 1)), nil)
	want(t, p.clear(2), nil)
	for c := range 3 { // also of what has no Data: ErrBound comes first
		for _, from := range append([]int{5, 6, 16}, far...) {
			for n := range 6 {
				want(t, p.write(c, from, text(n, 7)), api.ErrBound)
			}
		}
		for from := range 5 {
			for n := 5 - from; n < 8; n++ {
				want(t, p.write(c, from, text(n, 7)), api.ErrBound)
			}
			for _, bytes := range []int{1, 15, 17, 31, 33, 63, 65} {
				want(t, p.write(c, from, text(6, 7)[:bytes]), api.ErrBound)
			}
		}
		want(t, p.write(c, 0, strings.Repeat("x", 1<<20)), api.ErrBound)
	}
	p.wantRead(1, text(4, 1))
}

func TestD3WriteOfNoData(t *testing.T) {
	p := newPair(t, api.Head{Clusters: 2, Places: 3, Back: -1}, 0)
	want(t, p.clear(1), nil)
	for c := range 2 {
		for from := range 5 {
			for n := range 5 - from {
				want(t, p.write(c, from, text(n, 1)), api.ErrNone)
			}
		}
	}
	p.wantPending(1)
}

// What went well ahead of the write that fails stands there, nothing of what is behind it does.
func TestD3WriteFails(t *testing.T) {
	for from := range 4 {
		for n := range 4 - from {
			p := newPair(t, api.Head{Clusters: 1, Places: 2, Back: -1}, 0)
			want(t, p.fill(0, text(4, 50)), nil)
			p.flush()
			p.fail(n)
			want(t, p.write(0, from, text(4-from, 150)), api.ErrIO)
			p.wantRead(0, text(4, 50)[:16*from]+text(n, 150)+text(4, 50)[16*(from+n):])
			p.wantPending(n)
			want(t, p.write(0, from, text(4-from, 150)), nil)
			p.wantRead(0, text(4, 50)[:16*from]+text(4-from, 150))
		}
	}
}

// An empty write is none: a Fail stays ahead.
func TestD3WriteOfNothing(t *testing.T) {
	p := newPair(t, api.Head{Clusters: 1, Places: 2, Back: -1}, 0)
	want(t, p.fill(0, text(4, 50)), nil)
	p.fail(0)
	for from := range 5 {
		want(t, p.write(0, from, ""), nil)
	}
	want(t, p.write(0, 3, text(1, 1)), api.ErrIO)
}

func TestD3FillLowestPlace(t *testing.T) {
	p := newPair(t, api.Head{Clusters: 5, Places: 5, Back: -1}, 0)
	for n, c := range []int{3, 0, 4, 1} {
		want(t, p.fill(c, text(4, byte(30*n))), nil)
		p.wantPlace(n, text(4, byte(30*n)))
		p.wantPending(1)
	}
	want(t, p.clear(4), nil)
	want(t, p.clear(0), nil)
	p.flush()
	want(t, p.fill(2, text(4, 201)), nil)
	p.wantPlace(1, text(4, 201))
	want(t, p.fill(0, text(4, 202)), nil)
	p.wantPlace(2, text(4, 202))
	want(t, p.fill(4, text(4, 203)), nil)
	p.wantPlace(4, text(4, 203))
	p.wantFree(0)
}

func TestD3FillAllPlaces(t *testing.T) {
	p := newPair(t, api.Head{Clusters: 32, Places: 40, Back: -1}, 3)
	for c := range 32 {
		want(t, p.fill(31-c, text(4, byte(c))), nil)
	}
	p.wantFree(8)
	for c := range 32 {
		want(t, p.fill(c, text(4, 9)), api.ErrExist)
		p.wantRead(31-c, text(4, byte(c)))
	}
	for c := range 9 {
		want(t, p.clear(c), nil)
	}
	for c := range 8 { // the first of them flushes: then those are free that were held
		want(t, p.fill(c, text(4, 77)), nil)
	}
	p.wantFree(9)
}

// Of Fill's errors the first is told.
func TestD3FillRefuses(t *testing.T) {
	p := newPair(t, api.Head{Clusters: 3, Places: 1, Back: -1}, 0)
	want(t, p.fill(0, text(4, 1)), nil)
	p.flush()
	for c := range 3 {
		for _, bytes := range []int{0, 1, 16, 48, 63, 65, 80, 128} {
			want(t, p.fill(c, text(8, 1)[:bytes]), api.ErrBound)
		}
	}
	want(t, p.fill(0, text(4, 2)), api.ErrExist) // ahead of ErrFull
	want(t, p.fill(1, text(4, 2)), api.ErrFull)
	want(t, p.clear(2), nil)
	want(t, p.fill(2, text(4, 2)), api.ErrFull)
	p.wantPending(1) // none of them flushed
	p.wantRead(0, text(4, 1))
}

// Fill's five writes, and what is left if one of them fails.
func TestD3FillFails(t *testing.T) {
	for _, was := range []int{api.Absent, api.Zero} {
		for n := range 5 {
			p := newPair(t, api.Head{Clusters: 12, Places: 2, Back: -1}, 0)
			if was == api.Zero {
				want(t, p.clear(9), nil)
			}
			before := p.i.Dev().Pending()
			old := rubbish(11)[48:]
			p.fail(n)
			want(t, p.fill(9, text(4, 70)), api.ErrIO)
			p.wantKind(9, was)
			p.wantFree(2)
			p.wantPlace(0, text(n, 70)+old[16*n:64])
			if n < 4 {
				p.wantPending(before + n)
			} else {
				p.wantPending(0)
			}
			want(t, p.fill(9, text(4, 90)), nil)
			p.wantRead(9, text(4, 90))
			p.wantPlace(0, text(4, 90))
		}
	}
}

// The sectors of a Fill last ahead of its entry, with all that was pending: behind them the row alone is pending.
func TestD3FillFlushes(t *testing.T) {
	p := newPair(t, api.Head{Clusters: 3, Places: 3, Back: -1}, 0)
	want(t, p.fill(0, text(4, 1)), nil)
	want(t, p.write(0, 1, text(2, 60)), nil)
	want(t, p.clear(1), nil)
	p.wantPending(4)
	want(t, p.fill(2, text(4, 90)), nil)
	p.wantPending(1)
	p.crash(nil)
	p.wantKind(2, api.Absent)
	p.wantKind(1, api.Zero)
	p.wantRead(0, text(1, 1)+text(2, 60)+text(4, 1)[48:])
	p.wantPlace(1, text(4, 90))
}

// What a failing Fill held till its flush is free behind it.
func TestD3FillThatFailsAtItsRowHasFlushed(t *testing.T) {
	p := newPair(t, api.Head{Clusters: 3, Places: 3, Back: -1}, 0)
	want(t, p.fill(0, text(4, 1)), nil)
	want(t, p.clear(0), nil)
	p.wantFree(2)
	p.fail(3)
	want(t, p.fill(1, text(4, 30)), api.ErrIO)
	p.wantFree(2)
	p.wantPending(5)
	p.fail(4)
	want(t, p.fill(1, text(4, 30)), api.ErrIO)
	p.wantFree(3)
	p.wantPending(0)
}

func TestD3Clear(t *testing.T) {
	p := newPair(t, api.Head{Clusters: 10, Places: 2, Back: -1}, 0)
	want(t, p.fill(9, text(4, 8)), nil)
	p.flush()
	p.fail(1)
	want(t, p.clear(9), nil)
	p.wantKind(9, api.Zero)
	p.wantRead(9, noughts)
	p.wantPending(1)
	p.wantPlace(0, text(4, 8))
	for range 3 {
		want(t, p.clear(9), nil) // no write: it would fail
	}
	p.wantPending(1)
	want(t, p.clear(3), api.ErrIO)
	p.wantKind(3, api.Absent)
	want(t, p.clear(3), nil)
	p.wantKind(3, api.Zero)
	p.wantPending(2)
}

// A Clear that fails leaves the cluster its data, and no place is held.
func TestD3ClearFails(t *testing.T) {
	p := newPair(t, api.Head{Clusters: 3, Places: 2, Back: -1}, 0)
	want(t, p.fill(1, text(4, 8)), nil)
	p.flush()
	p.fail(0)
	want(t, p.clear(1), api.ErrIO)
	p.wantKind(1, api.Data)
	p.wantRead(1, text(4, 8))
	p.wantPending(0)
	p.wantFree(1)
	want(t, p.write(1, 0, text(1, 60)), nil)
	want(t, p.clear(1), nil)
	p.wantFree(1)
}

// A row is written with the entries that are, not with one whose row failed.
func TestD3RowThatFailedIsNotWrittenLater(t *testing.T) {
	p := newPair(t, api.Head{Clusters: 8, Places: 2, Back: -1}, 0)
	p.fail(0)
	want(t, p.clear(2), api.ErrIO)
	p.fail(4)
	want(t, p.fill(3, text(4, 1)), api.ErrIO)
	want(t, p.clear(4), nil)
	p.flush()
	if s, err := p.i.Dev().Read(1); s != strings.Repeat("\x00", 8)+"\x01"+strings.Repeat("\x00", 7) || err != nil {
		t.Errorf("row 0: %x, %v", s, err)
	}
}

// Each entry stands in its own row.
func TestD3RowsOfEveryCluster(t *testing.T) {
	for c := range 32 {
		p := newPair(t, api.Head{Clusters: 32, Places: 40, Back: 1}, 0)
		want(t, p.clear(c), nil)
		want(t, p.fill(31-c, text(4, 4)), nil)
		want(t, p.fill(c, text(4, 5)), nil)
		p.flush()
		rows := []byte(p.i.Dev().Bytes()[16 : 16*5])
		if rows[2*c] != 2 || rows[2*c+1] != 1 || rows[2*(31-c)] != 2 || rows[2*(31-c)+1] != 0 {
			t.Errorf("cluster %d: %x", c, rows)
		}
	}
}

// A held place is not written to: behind a crash its old entry may stand again.
func TestD3HeldPlaceIsNotWritten(t *testing.T) {
	for n := range 4 {
		p := newPair(t, api.Head{Clusters: 3, Places: 2, Back: -1}, 0)
		want(t, p.fill(0, text(4, 1)), nil)
		p.flush()
		want(t, p.clear(0), nil)
		p.fail(n)
		want(t, p.fill(1, text(4, 99)), api.ErrIO)
		p.wantPlace(0, text(4, 1))
		p.wantPending(1 + n)
		p.crash([]bool{false, true, true, true}) // the row is lost, and what Fill wrote is not
		p.wantRead(0, text(4, 1))
		p.wantKind(1, api.Absent)
	}
}

func TestD4FlushFreesWhatIsHeld(t *testing.T) {
	p := newPair(t, api.Head{Clusters: 5, Places: 4, Back: -1}, 0)
	for c := range 4 {
		want(t, p.fill(c, text(4, byte(c))), nil)
	}
	for c := range 4 {
		want(t, p.clear(c), nil)
		p.wantFree(0)
	}
	p.wantPending(5)
	p.flush()
	p.wantFree(4)
	p.wantPending(0)
	p.flush()
	p.wantFree(4)
}

// The device's own flush is not the image's: what is held stays so.
func TestD4FlushOfTheDeviceAlone(t *testing.T) {
	p := newPair(t, api.Head{Clusters: 2, Places: 1, Back: -1}, 0)
	want(t, p.fill(0, text(4, 1)), nil)
	want(t, p.clear(0), nil)
	p.i.Dev().Flush()
	p.m.d.flush()
	p.same(nil, nil)
	p.wantFree(0)
	p.flush()
	p.wantFree(1)
}

func TestD4Link(t *testing.T) {
	for back := -1; back <= 4; back++ {
		p := newPair(t, api.Head{Clusters: 5, Places: 4, Back: 2}, 0)
		want(t, p.fill(0, text(4, 1)), nil)
		want(t, p.clear(0), nil)
		want(t, p.link(back), nil)
		h := api.Head{Clusters: 5, Places: 4, Back: back}
		if p.i.Head() != h {
			t.Errorf("Head() = %v, not %v", p.i.Head(), h)
		}
		if got := p.i.Dev().Bytes()[:16]; got != modelHead(h) {
			t.Errorf("the head on the device: %x", got)
		}
		p.wantFree(4)
		p.crash(nil)
		if p.i.Head() != h {
			t.Errorf("behind a crash Head() = %v, not %v", p.i.Head(), h)
		}
		p.wantRead(0, noughts)
	}
}

// Link's error of a Back that may not be comes ahead of its flush.
func TestD4LinkOutOfBounds(t *testing.T) {
	p := newPair(t, api.Head{Clusters: 5, Places: 1, Back: 2}, 0)
	want(t, p.fill(0, text(4, 1)), nil)
	want(t, p.clear(0), nil)
	p.fail(0)
	for _, back := range append([]int{5, 6, 255}, far...) {
		if back == -1 {
			continue
		}
		want(t, p.link(back), api.ErrBound)
		p.wantPending(2)
		p.wantFree(0)
	}
	want(t, p.clear(1), api.ErrIO)
}

// A Link whose write fails has flushed, and all else stays.
func TestD4LinkFails(t *testing.T) {
	p := newPair(t, api.Head{Clusters: 5, Places: 1, Back: 2}, 0)
	want(t, p.fill(0, text(4, 1)), nil)
	want(t, p.clear(0), nil)
	p.fail(0)
	want(t, p.link(3), api.ErrIO)
	if p.i.Head().Back != 2 {
		t.Errorf("Head() = %v", p.i.Head())
	}
	p.wantPending(0)
	p.wantFree(1)
	p.wantRead(0, noughts)
	p.crash([]bool{true})
	if p.i.Head().Back != 2 {
		t.Errorf("behind a crash Head() = %v", p.i.Head())
	}
	want(t, p.link(3), nil)
	want(t, p.link(3), nil)
}

// What is pending ahead of a Link lasts, if its head does: what it flushes first is not behind the head.
func TestD4LinkLastsAsAWhole(t *testing.T) {
	p := newPair(t, api.Head{Clusters: 5, Places: 2, Back: 2}, 0)
	want(t, p.fill(0, text(4, 1)), nil)
	want(t, p.write(0, 2, text(2, 100)), nil)
	want(t, p.link(-1), nil)
	p.wantPending(0)
	p.crash(nil)
	p.wantRead(0, text(2, 1)+text(2, 100))
}

// source of small numbers, for the runs below.
type source func() int

func (next source) sectors(n int) string {
	var b strings.Builder
	for range n {
		b.WriteString(strings.Repeat(string([]byte{byte(next())}), 15))
		b.WriteByte(byte(next()))
	}
	return b.String()
}

// step: some call or other.
func (p *pair) step(next source) {
	p.t.Helper()
	c := next()%(p.m.h.Clusters+2) - 1
	switch next() % 16 {
	case 0, 1, 2:
		s := next.sectors(next() % 6)
		p.write(c, next()%7-1, s[:max(0, len(s)-next()%9/8)])
	case 3, 4, 5, 6:
		p.fill(c, next.sectors(4-next()%17/16))
	case 7, 8, 9, 10:
		p.clear(c)
	case 11:
		p.flush()
	case 12:
		p.link(next()%8 - 2)
	case 13, 14:
		p.fail(next() % 7)
	case 15:
		p.i.Dev().Flush()
		p.m.d.flush()
		p.same(nil, nil)
	}
}

// seen: of each sector of each cluster what it is; "-" where nothing is.
func seen(m *model) []string {
	var l []string
	for c := range m.entries {
		s, err := m.read(c)
		for n := range 4 {
			if err != nil {
				l = append(l, "-")
			} else {
				l = append(l, s[16*n:16*n+16])
			}
		}
	}
	return l
}

// past: of each sector all that it was since the last flush.
type past []map[string]bool

func (l past) add(now []string) {
	for n, s := range now {
		l[n][s] = true
	}
}

func pastOf(now []string) past {
	l := make(past, len(now))
	for n, s := range now {
		l[n] = map[string]bool{s: true}
	}
	return l
}

// wantPast: a crash that keeps any part of what is pending leaves an image, of whose sectors each is what it was.
func (p *pair) wantPast(keep []bool, l past, backs map[int]bool) {
	p.t.Helper()
	i, err := Open(p.i.Dev().Crash(keep))
	if err != nil {
		p.t.Fatalf("behind a crash: %v", err)
	}
	if !backs[i.Head().Back] {
		p.t.Fatalf("behind a crash Back is %d, of %v", i.Head().Back, backs)
	}
	for n := range l {
		s, err := i.Read(n / 4)
		if err == nil {
			s = s[16*(n%4) : 16*(n%4)+16]
		} else {
			s = "-"
		}
		if !l[n][s] {
			p.t.Fatalf("behind a crash sector %d of cluster %d is %x, which it never was since the flush", n%4, n/4, s)
		}
	}
}

// crashes: every part that may be kept, if they are few; else some.
func (p *pair) crashes(r *rand.Rand, l past) {
	p.t.Helper()
	backs := map[int]bool{p.m.h.Back: true}
	n := p.i.Dev().Pending()
	if n <= 4 {
		for mask := range 1 << n {
			p.wantPast(bitsOf(mask, n), l, backs)
		}
		return
	}
	for range 12 {
		p.wantPast(bitsOf(r.Intn(1<<min(n, 30)), n), l, backs)
	}
	p.wantPast(nil, l, backs)
	p.wantPast(bitsOf(1<<n-1, n), l, backs)
}

func bitsOf(mask, n int) []bool {
	l := make([]bool, n)
	for k := range l {
		l[k] = mask>>k&1 == 1
	}
	return l
}

// Long runs of any calls, with devices that fail: all is as the model has it, and a crash at any moment leaves what was.
func TestD3AnyCallsAnyCrash(t *testing.T) {
	heads := []api.Head{{Clusters: 3, Places: 2, Back: -1}, {Clusters: 9, Places: 4, Back: 0}, {Clusters: 4, Places: 6, Back: 3}, {Clusters: 32, Places: 40, Back: 1}, {Clusters: 1, Places: 1, Back: 4}, {Clusters: 17, Places: 5, Back: 2}}
	for seed := range 120 {
		r := rand.New(rand.NewSource(int64(seed)))
		p := newPair(t, heads[seed%len(heads)], seed%3)
		l := pastOf(seen(p.m))
		for range 160 {
			before, flushes := seen(p.m), p.m.d.flushes
			p.step(func() int { return r.Intn(256) })
			if p.m.d.flushes != flushes {
				l = pastOf(before)
			}
			l.add(seen(p.m))
			p.crashes(r, l)
			if r.Intn(12) == 0 {
				p.crash(bitsOf(r.Intn(1<<20), 20))
				l = pastOf(seen(p.m))
			}
		}
	}
}

// Each call, at each write that may fail, and then each part of what is pending: with a place that is held.
func TestD3EveryFailEveryCrash(t *testing.T) {
	calls := []func(p *pair) error{
		func(p *pair) error { return p.write(0, 0, text(4, 150)) },
		func(p *pair) error { return p.fill(2, text(4, 150)) },
		func(p *pair) error { return p.fill(3, text(4, 150)) },
		func(p *pair) error { return p.clear(0) },
		func(p *pair) error { return p.clear(2) },
		func(p *pair) error { return p.link(4) },
	}
	r := rand.New(rand.NewSource(1))
	for _, call := range calls {
		for n := range 6 {
			p := newPair(t, api.Head{Clusters: 4, Places: 4, Back: -1}, 0)
			want(t, p.fill(0, text(4, 20)), nil)
			want(t, p.fill(1, text(4, 90)), nil)
			p.flush()
			l := pastOf(seen(p.m))
			for _, err := range []error{p.clear(1), p.write(0, 1, text(1, 3)), p.clear(3)} {
				want(t, err, nil)
				l.add(seen(p.m))
			}
			l.add(seen(p.m))
			p.fail(n)
			before, flushes := seen(p.m), p.m.d.flushes
			call(p)
			if p.m.d.flushes != flushes {
				l = pastOf(before)
			}
			l.add(seen(p.m))
			p.noFail()
			p.crashes(r, l)
			p.wantPlace(1, text(4, 90))
		}
	}
}

// A Create that failed leaves no image, one that went well leaves it, whatever is lost.
func TestD1CreateCrashes(t *testing.T) {
	for n := range 4 {
		d := devOf(t, rubbish(12))
		want(t, d.Fail(n), nil)
		i, err := Create(d, api.Head{Clusters: 16, Places: 1, Back: -1})
		for mask := range 1 << d.Pending() {
			o, oerr := Open(d.Crash(bitsOf(mask, d.Pending())))
			if err != nil && (o != nil || oerr != api.ErrSum) {
				t.Errorf("Fail(%d): Open = %v, %v", n, o, oerr)
			}
			if err == nil && (oerr != nil || o.Head() != i.Head() || o.Free() != 1) {
				t.Errorf("Fail(%d): Open = %v, %v", n, o, oerr)
			}
		}
	}
}

// Two images go on apart, and a device's copy is another one.
func TestZ2ImagesApart(t *testing.T) {
	a := newPair(t, api.Head{Clusters: 3, Places: 3, Back: -1}, 0)
	want(t, a.fill(0, text(4, 1)), nil)
	b := a.copied()
	want(t, a.write(0, 0, text(4, 50)), nil)
	want(t, b.clear(0), nil)
	want(t, b.fill(1, text(4, 9)), nil)
	want(t, a.link(3), nil)
	a.same(nil, nil)
	b.same(nil, nil)
	a.wantFree(2)
	b.wantFree(2)
	a.wantRead(0, text(4, 50))
	b.wantRead(0, noughts)
}

// What an image answers hangs on what was called before on it alone: asked again it is the same.
func TestZ2AskedAgain(t *testing.T) {
	p := newPair(t, api.Head{Clusters: 3, Places: 3, Back: -1}, 0)
	want(t, p.fill(0, text(4, 1)), nil)
	want(t, p.clear(0), nil)
	want(t, p.fill(1, text(4, 9)), nil)
	for range 3 {
		p.same(nil, nil)
	}
}

// bare: an error of package api, not something around it.
func bare(t *testing.T, err error) {
	t.Helper()
	if reflect.TypeOf(err) != reflect.TypeFor[api.Errno]() {
		t.Errorf("%T: %v", err, err)
	}
}

func TestZ3ErrorsAreBare(t *testing.T) {
	_, err := Create(devOf(t, rubbish(1)), api.Head{})
	bare(t, err)
	_, err = Create(devOf(t, rubbish(1)), api.Head{Clusters: 1})
	bare(t, err)
	_, err = Open(devOf(t, rubbish(1)))
	bare(t, err)
	p := newPair(t, api.Head{Clusters: 3, Places: 1, Back: -1}, 0)
	_, err = p.i.Kind(-1)
	bare(t, err)
	_, err = p.i.Read(3)
	bare(t, err)
	_, err = p.i.Read(0)
	bare(t, err)
	bare(t, p.write(0, 9, ""))
	bare(t, p.write(0, 0, ""))
	bare(t, p.fill(0, ""))
	want(t, p.fill(0, text(4, 1)), nil)
	bare(t, p.fill(0, text(4, 1)))
	bare(t, p.fill(1, text(4, 1)))
	bare(t, p.clear(-1))
	bare(t, p.link(9))
	p.fail(0)
	bare(t, p.link(1))
}

// Whatever bytes stand on a device: they are opened, or refused, as the model has it; and any calls behind that.
func FuzzZ1AnyBytesAnyCalls(f *testing.F) {
	none := strings.Repeat("\x00", 16)
	h := api.Head{Clusters: 9, Places: 2, Back: -1}
	f.Add([]byte(standing(h, none, none)), []byte("any calls, one behind the other, as they come"), false)
	f.Add([]byte(standing(h, "\x02\x01"+none[2:], "\x02\x00"+none[2:])), []byte{3, 3, 1, 2, 3, 4, 5, 6, 7, 8, 9, 3, 7, 3, 11}, true)
	f.Add([]byte(rubbish(3)), []byte{}, true)
	f.Add([]byte{}, []byte{}, false)
	f.Fuzz(func(t *testing.T, b, calls []byte, sealed bool) {
		s := string(b)
		s += strings.Repeat("\x00", (16-len(s)%16)%16)
		s = s[:min(len(s), 3200)]
		if s == "" {
			s = none
		}
		if sealed {
			s = modelHead(api.Head{Clusters: int(s[2]), Places: int(s[3]), Back: int(s[4]) - 1}) + s[16:]
		}
		d, md := devOf(t, s), modelDevOf(s)
		i, err := Open(d)
		m, merr := modelOpen(md)
		if err != merr || (i == nil) != (err != nil) {
			t.Fatalf("Open = %v, %v, not %v", i, err, merr)
		}
		sameDev(t, d, md)
		if err != nil {
			return
		}
		p := &pair{t, i, m}
		p.same(nil, nil)
		for at := 0; at < len(calls); {
			p.step(func() int {
				at++
				return int(calls[(at-1)%len(calls)])
			})
		}
	})
}
