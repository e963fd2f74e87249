package chain

import (
	"math"
	"math/rand"
	"slices"
	"strings"
	"testing"

	"stackyard/api"
	"stackyard/dev"
	"stackyard/image"
)

// far: numbers that no bound lets through.
var far = []int{math.MinInt, math.MinInt + 1, -1 << 32, -256, -2, -1, 256, 1 << 32, math.MaxInt / 16, math.MaxInt / 4, math.MaxInt - 1, math.MaxInt}

var noughtCluster = strings.Repeat("\x00", 64)

// text of so many sectors, each another one, and none of them noughts.
func text(sectors int, b byte) string {
	var l []byte
	for n := range sectors {
		l = append(l, b+byte(n))
		l = append(l, "123456789abcdef"...)
	}
	return string(l)
}

// stood: what a file has of a cluster of Data when it is made.
func stood(file, c int) string { return text(4, byte(40+50*file+4*c)) }

// spec of a file: kinds has a letter a cluster, '.' Absent, 'z' Zero, 'D' Data; free: how many places are. No kinds: no file.
type spec struct {
	kinds string
	free  int
	back  int
}

func fileOf(t testing.TB, file int, p spec) *image.Image {
	t.Helper()
	if p.kinds == "" {
		return nil
	}
	h := api.Head{Clusters: len(p.kinds), Places: strings.Count(p.kinds, "D") + p.free, Back: p.back}
	d, err := dev.Of(strings.Repeat("rubbish! rubbish", image.Need(h)+2))
	if err != nil {
		t.Fatal(err)
	}
	i, err := image.Create(d, h)
	if err != nil {
		t.Fatalf("Create(%v): %v", h, err)
	}
	for c, k := range p.kinds {
		switch k {
		case 'D':
			err = i.Fill(c, stood(file, c))
		case 'z':
			err = i.Clear(c)
		}
		if err != nil {
			t.Fatal(err)
		}
	}
	i.Flush()
	return i
}

// pair: a shelf, and a model of it. Each call is made of both, and then all files of both are held against each other.
type pair struct {
	t testing.TB
	s *Shelf
	m *model
}

func pairOf(t testing.TB, l ...spec) *pair {
	t.Helper()
	p := &pair{t, new(Shelf), new(model)}
	for n, x := range l {
		p.s[n] = fileOf(t, n, x)
		p.m[n] = fileOf(t, n, x)
	}
	p.same(nil, nil)
	return p
}

func (p *pair) same(err, want error) {
	p.t.Helper()
	if err != want {
		p.t.Fatalf("error %v, not %v", err, want)
	}
	for n := range p.s {
		sameFile(p.t, n, p.s[n], p.m[n])
	}
}

func (p *pair) walk(root int) ([]int, error) {
	p.t.Helper()
	l, err := p.s.Walk(root)
	want, wantErr := p.m.walk(root)
	p.same(err, wantErr)
	if !slices.Equal(l, want) {
		p.t.Fatalf("Walk(%d) = %v, not %v", root, l, want)
	}
	return l, err
}

func (p *pair) read(l []int, c int) (string, error) {
	p.t.Helper()
	s, err := p.s.Read(l, c)
	want, wantErr := p.m.read(l, c)
	p.same(err, wantErr)
	if s != want {
		p.t.Fatalf("Read(%v, %d) = %x, not %x", l, c, s, want)
	}
	if got, want := p.s.Found(l, c), p.m.found(l, c); got != want {
		p.t.Fatalf("Found(%v, %d) = %d, not %d", l, c, got, want)
	}
	return s, err
}

func (p *pair) get(l []int, from, n int) (string, error) {
	p.t.Helper()
	s, err := p.s.Get(l, from, n)
	want, wantErr := p.m.get(l, from, n)
	p.same(err, wantErr)
	if s != want {
		p.t.Fatalf("Get(%v, %d, %d) = %x, not %x", l, from, n, s, want)
	}
	return s, err
}

func (p *pair) put(l []int, from int, s string) error {
	p.t.Helper()
	err := p.s.Put(l, from, s)
	p.same(err, p.m.put(l, from, s))
	return err
}

func (p *pair) wipe(l []int, from, n int) error {
	p.t.Helper()
	err := p.s.Wipe(l, from, n)
	p.same(err, p.m.wipe(l, from, n))
	return err
}

func (p *pair) move(file, c int, s string) error {
	p.t.Helper()
	err := p.s.Move(file, c, s)
	p.same(err, p.m.move(file, c, s))
	return err
}

// fail: the write to a file behind n more fails.
func (p *pair) fail(file, n int) {
	p.t.Helper()
	want(p.t, p.s[file].Dev().Fail(n), nil)
	want(p.t, p.m[file].Dev().Fail(n), nil)
}

func (p *pair) flush(file int) {
	p.t.Helper()
	p.s[file].Flush()
	p.m[file].Flush()
	p.same(nil, nil)
}

// want: a call answers that error, bare.
func want(t testing.TB, got, want error) {
	t.Helper()
	if got != want {
		t.Fatalf("error %v, not %v", got, want)
	}
}

// wantFile: what stands in a file: kinds as spec's, and of each Data in order its bytes.
func (p *pair) wantFile(file int, kinds string, data ...string) {
	p.t.Helper()
	i := p.s[file]
	for c, letter := range kinds {
		kind, err := i.Kind(c)
		if err != nil || kind != strings.IndexRune(".zD", letter) {
			p.t.Fatalf("file %d: Kind(%d) = %d, %v, not that of %c", file, c, kind, err, letter)
		}
		if letter != 'D' {
			continue
		}
		if s, err := i.Read(c); s != data[0] || err != nil {
			p.t.Fatalf("file %d: Read(%d) = %x, %v, not %x", file, c, s, err, data[0])
		}
		data = data[1:]
	}
	if len(data) != 0 {
		p.t.Fatalf("file %d: %d clusters of data more than kinds has", file, len(data))
	}
}

// wantCounts of a file: how many writes it had since from, how many are pending, how many places are free.
func (p *pair) wantCounts(file, from, writes, pending, free int) {
	p.t.Helper()
	i := p.s[file]
	if w := i.Dev().Writes() - from; w != writes || i.Dev().Pending() != pending || i.Free() != free {
		p.t.Fatalf("file %d: %d writes, %d pending, %d free, not %d, %d, %d", file, w, i.Dev().Pending(), i.Free(), writes, pending, free)
	}
}

func (p *pair) writes(file int) int { return p.s[file].Dev().Writes() }

// wantSeen: all sectors of a list.
func (p *pair) wantSeen(l []int, s string) {
	p.t.Helper()
	if got, err := p.get(l, 0, len(s)/16); got != s || err != nil {
		p.t.Fatalf("seen of %v: %x, %v, not %x", l, got, err, s)
	}
}

// over a text another one, from one of its sectors on.
func over(s string, from int, t string) string { return s[:16*from] + t + s[16*from+len(t):] }

func TestG1FilesOneBelowTheOther(t *testing.T) {
	p := pairOf(t, spec{"..", 0, 2}, spec{"D.", 0, 4}, spec{".z", 3, -1}, spec{"DD", 0, 1}, spec{"..", 1, 0})
	for root, l := range [][]int{{0, 2}, {1, 4, 0, 2}, {2}, {3, 1, 4, 0, 2}, {4, 0, 2}} {
		got, err := p.walk(root)
		if !slices.Equal(got, l) || err != nil {
			t.Errorf("Walk(%d) = %v, %v, not %v", root, got, err, l)
		}
	}
}

func TestG1NoneOfRootMinusOne(t *testing.T) {
	for _, p := range []*pair{pairOf(t), pairOf(t, spec{"..", 0, -1}, spec{"..", 0, 0})} {
		if l, err := p.walk(-1); len(l) != 0 || err != nil {
			t.Errorf("Walk(-1) = %v, %v", l, err)
		}
	}
}

func TestG1NoSuchFile(t *testing.T) {
	p := pairOf(t, spec{".", 0, 1}, spec{}, spec{".", 0, 3}, spec{".", 0, 4}, spec{".", 0, 0})
	for _, root := range append([]int{0, 1, 2, 3, 4, 5, 6}, far...) {
		if root == -1 {
			continue
		}
		if l, err := p.walk(root); len(l) != 0 || err != api.ErrNone {
			t.Errorf("Walk(%d) = %v, %v, not ErrNone", root, l, err)
		}
	}
	if l, err := new(Shelf).Walk(0); len(l) != 0 || err != api.ErrNone {
		t.Errorf("Walk(0) of an empty shelf = %v, %v", l, err)
	}
}

func TestG1GoesRound(t *testing.T) {
	for _, backs := range [][5]int{{0, 0, 0, 0, 0}, {1, 0, 0, 1, 2}, {1, 2, 3, 4, 0}, {1, 2, 3, 4, 4}, {4, 0, 1, 2, 3}} {
		p := pairOf(t)
		for n, back := range backs {
			p.s[n] = fileOf(t, n, spec{"..", 0, back})
			p.m[n] = p.s[n]
		}
		for root := range 5 {
			if l, err := p.walk(root); len(l) != 0 || err != api.ErrChain {
				t.Errorf("backs %v: Walk(%d) = %v, %v, not ErrChain", backs, root, l, err)
			}
		}
	}
}

func TestG1OneImageUnderSeveralNumbers(t *testing.T) {
	x := fileOf(t, 0, spec{"..", 0, 1})
	s := &Shelf{x, x, x}
	if l, err := s.Walk(2); len(l) != 0 || err != api.ErrChain {
		t.Errorf("Walk(2) = %v, %v, not ErrChain", l, err)
	}
	s[1] = fileOf(t, 1, spec{"..", 0, -1})
	if l, err := s.Walk(2); !slices.Equal(l, []int{2, 1}) || err != nil {
		t.Errorf("Walk(2) = %v, %v", l, err)
	}
}

func TestG1OtherClusters(t *testing.T) {
	p := pairOf(t, spec{"..", 0, 1}, spec{"..", 0, 2}, spec{"...", 0, 3}, spec{"...", 0, 4}, spec{".", 0, -1})
	for root := range 4 {
		if l, err := p.walk(root); len(l) != 0 || err != api.ErrShape {
			t.Errorf("Walk(%d) = %v, %v, not ErrShape", root, l, err)
		}
	}
	if l, err := p.walk(4); !slices.Equal(l, []int{4}) || err != nil {
		t.Errorf("Walk(4) = %v, %v", l, err)
	}
}

// The first file with an error tells it, whatever those below have.
func TestG1FirstFileFirst(t *testing.T) {
	for _, x := range []struct {
		files []spec
		err   error
	}{
		{[]spec{{".", 0, 1}, {"..", 0, 2}}, api.ErrShape},                  // then none
		{[]spec{{".", 0, 1}, {"..", 0, 0}}, api.ErrShape},                  // then it goes round
		{[]spec{{".", 0, 1}, {".", 0, 3}, {"..", 0, -1}}, api.ErrNone},     // none, beside one of other clusters
		{[]spec{{".", 0, 1}, {".", 0, 2}, {".", 0, 4}}, api.ErrNone},       // none, far below
		{[]spec{{".", 0, 1}, {".", 0, 1}, {"..", 0, 0}, {}}, api.ErrChain}, // round, beside others
	} {
		p := pairOf(t, x.files...)
		if l, err := p.walk(0); len(l) != 0 || err != x.err {
			t.Errorf("%v: Walk(0) = %v, %v, not %v", x.files, l, err, x.err)
		}
	}
}

// All shelves whose files are none, or have one cluster or two, and any Back.
func TestG1AllShelves(t *testing.T) {
	var kinds [5][]*image.Image
	for n := range kinds {
		kinds[n] = append(kinds[n], nil)
		for back := -1; back < 5; back++ {
			kinds[n] = append(kinds[n], fileOf(t, n, spec{".", 0, back}))
			if n < 3 {
				kinds[n] = append(kinds[n], fileOf(t, n, spec{"..", 0, back}))
			}
		}
	}
	all := 1
	for n := range kinds {
		all *= len(kinds[n])
	}
	for k := range all {
		var s Shelf
		for n, left := 0, k; n < 5; n++ {
			s[n] = kinds[n][left%len(kinds[n])]
			left /= len(kinds[n])
		}
		m := model(s)
		for root := -2; root <= 5; root++ {
			l, err := s.Walk(root)
			want, wantErr := m.walk(root)
			if !slices.Equal(l, want) || err != wantErr {
				t.Fatalf("shelf %d: Walk(%d) = %v, %v, not %v, %v", k, root, l, err, want, wantErr)
			}
		}
	}
}

func TestG1ALinkIsSeen(t *testing.T) {
	p := pairOf(t, spec{".", 0, -1}, spec{".", 0, 0}, spec{".", 0, 1})
	want(t, p.s[2].Link(0), nil)
	want(t, p.m[2].Link(0), nil)
	if l, err := p.walk(2); !slices.Equal(l, []int{2, 0}) || err != nil {
		t.Errorf("Walk(2) = %v, %v", l, err)
	}
}

// kinds27: three files whose 27 clusters have all kinds one above the other.
func kinds27() []spec {
	l := make([]spec, 3)
	for c := range 27 {
		l[0].kinds += string(".zD"[c%3])
		l[1].kinds += string(".zD"[c/3%3])
		l[2].kinds += string(".zD"[c/9])
	}
	l[0].back, l[1].back, l[2].back = 1, 2, -1
	return l
}

func TestG2FoundAndReadOfAllKinds(t *testing.T) {
	files := kinds27()
	p := pairOf(t, files...)
	for _, l := range [][]int{{0, 1, 2}, {2, 1, 0}, {1, 0}, {0, 2}, {2}, {1, 1, 0}, {0, 1, 2, 0, 1, 2, 0}} {
		for c := range 27 {
			place, s := -1, noughtCluster
			for at, n := range l {
				if k := files[n].kinds[c]; k != '.' {
					place = at
					if k == 'D' {
						s = stood(n, c)
					}
					break
				}
			}
			if got := p.s.Found(l, c); got != place {
				t.Errorf("Found(%v, %d) = %d, not %d", l, c, got, place)
			}
			if got, err := p.read(l, c); got != s || err != nil {
				t.Errorf("Read(%v, %d) = %x, %v, not %x", l, c, got, err, s)
			}
		}
	}
}

// The document's example: what 1 has not is seen in 0; Zero in 1 hides what 0 has.
func TestG2OneOverZero(t *testing.T) {
	p := pairOf(t, spec{"DDD.", 0, -1}, spec{".zD.", 0, 0})
	l, err := p.walk(1)
	want(t, err, nil)
	p.wantSeen(l, stood(0, 0)+noughtCluster+stood(1, 2)+noughtCluster)
	for c, place := range []int{1, 0, 0, -1} {
		if got := p.s.Found(l, c); got != place {
			t.Errorf("Found(%v, %d) = %d, not %d", l, c, got, place)
		}
	}
}

func TestG2NoSuchCluster(t *testing.T) {
	p := pairOf(t, spec{"DzD", 0, 1}, spec{"DDD", 0, -1})
	for _, l := range [][]int{{0}, {0, 1}} {
		for _, c := range append([]int{3, 4, 7, 8, 32}, far...) {
			if got := p.s.Found(l, c); got != -1 {
				t.Errorf("Found(%v, %d) = %d, not -1", l, c, got)
			}
			if s, err := p.read(l, c); s != "" || err != api.ErrBound {
				t.Errorf("Read(%v, %d) = %x, %v, not ErrBound", l, c, s, err)
			}
		}
	}
}

func TestG2EmptyList(t *testing.T) {
	p := pairOf(t, spec{"D", 0, -1})
	for _, l := range [][]int{nil, {}} {
		for _, c := range append([]int{0, 1, 2}, far...) {
			if got := p.s.Found(l, c); got != -1 {
				t.Errorf("Found(%v, %d) = %d, not -1", l, c, got)
			}
			if s, err := p.read(l, c); s != "" || err != api.ErrNone {
				t.Errorf("Read(%v, %d) = %x, %v, not ErrNone", l, c, s, err)
			}
		}
	}
}

func TestG3GetEachRange(t *testing.T) {
	p := pairOf(t, spec{".zD..", 0, 1}, spec{"DDD.z", 0, -1})
	l := []int{0, 1}
	all := stood(1, 0) + noughtCluster + stood(0, 2) + noughtCluster + noughtCluster
	for from := -2; from <= 23; from++ {
		for n := -2; n <= 23; n++ {
			s, err := p.get(l, from, n)
			if from < 0 || n < 0 || from+n > 20 {
				if s != "" || err != api.ErrBound {
					t.Fatalf("Get(%d, %d) = %x, %v, not ErrBound", from, n, s, err)
				}
			} else if s != all[16*from:16*(from+n)] || err != nil {
				t.Fatalf("Get(%d, %d) = %x, %v", from, n, s, err)
			}
		}
	}
}

func TestG3TheLargestImage(t *testing.T) {
	p := pairOf(t, spec{strings.Repeat(".", 32), 40, 1}, spec{strings.Repeat("D", 32), 8, -1})
	l := []int{0, 1}
	s := text(128, 3)
	want(t, p.put(l, 0, s), nil)
	p.wantSeen(l, s)
	want(t, p.put(l, 127, text(1, 200)), nil)
	p.wantSeen(l, over(s, 127, text(1, 200)))
	want(t, p.put(l, 127, text(2, 200)), api.ErrBound)
	want(t, p.wipe(l, 0, 128), nil)
	p.wantSeen(l, strings.Repeat(noughtCluster, 32))
	want(t, p.wipe(l, 0, 129), api.ErrBound)
	p.wantSeen([]int{1}, func() (s string) {
		for c := range 32 {
			s += stood(1, c)
		}
		return s
	}())
}

func TestG3NotAllOfThem(t *testing.T) {
	p := pairOf(t, spec{"D.z", 3, 1}, spec{"DDD", 0, -1})
	for _, l := range [][]int{{0}, {0, 1}} {
		for _, from := range append([]int{0, 1, 11, 12, 13, 16}, far...) {
			for _, n := range append([]int{0, 1, 2, 12, 13}, far...) {
				all := from >= 0 && from <= 12 && n >= 0 && n <= 12-from
				if all {
					continue
				}
				if s, err := p.get(l, from, n); s != "" || err != api.ErrBound {
					t.Errorf("Get(%d, %d) = %x, %v, not ErrBound", from, n, s, err)
				}
				if err := p.wipe(l, from, n); err != api.ErrBound {
					t.Errorf("Wipe(%d, %d): %v, not ErrBound", from, n, err)
				}
				if n < 0 || n > 13 {
					continue
				}
				if err := p.put(l, from, text(n, 1)); err != api.ErrBound {
					t.Errorf("Put(%d, %d sectors): %v, not ErrBound", from, n, err)
				}
			}
		}
	}
	p.wantFile(0, "D.z", stood(0, 0))
	p.wantFile(1, "DDD", stood(1, 0), stood(1, 1), stood(1, 2))
}

func TestG3EmptyListIsToldAheadOfBounds(t *testing.T) {
	p := pairOf(t, spec{"D", 1, -1})
	for _, l := range [][]int{nil, {}} {
		for _, from := range append([]int{0, 1, 4, 5}, far...) {
			for _, n := range append([]int{0, 1, 4, 5}, far...) {
				if s, err := p.get(l, from, n); s != "" || err != api.ErrNone {
					t.Errorf("Get(%d, %d) = %x, %v, not ErrNone", from, n, s, err)
				}
				want(t, p.wipe(l, from, n), api.ErrNone)
			}
			want(t, p.put(l, from, ""), api.ErrNone)
			want(t, p.put(l, from, text(1, 1)), api.ErrNone)
			want(t, p.put(l, from, text(9, 1)), api.ErrNone)
			want(t, p.put(l, from, "x"), api.ErrBound) // of Put what isn't whole sectors is told first
			want(t, p.put(l, from, text(1, 1)+"x"), api.ErrBound)
		}
	}
}

func TestG3PutOfWhatIsNotWholeSectors(t *testing.T) {
	p := pairOf(t, spec{"D.z", 3, -1})
	for _, bytes := range []int{1, 15, 17, 31, 33, 63, 65, 191, 193} {
		for _, from := range []int{-1, 0, 1, 4, 12, 13} {
			if err := p.put([]int{0}, from, text(13, 1)[:bytes]); err != api.ErrBound {
				t.Errorf("Put(%d, %d bytes): %v, not ErrBound", from, bytes, err)
			}
		}
	}
	p.wantFile(0, "D.z", stood(0, 0))
	p.wantCounts(0, p.writes(0), 0, 0, 3)
}

func TestG3AnEmptyRangeIsNothing(t *testing.T) {
	p := pairOf(t, spec{"D.z", 0, -1})
	p.fail(0, 0) // a write would be told
	from := p.writes(0)
	for at := 0; at <= 12; at++ {
		if s, err := p.get([]int{0}, at, 0); s != "" || err != nil {
			t.Errorf("Get(%d, 0) = %x, %v", at, s, err)
		}
		want(t, p.put([]int{0}, at, ""), nil)
		want(t, p.wipe([]int{0}, at, 0), nil)
	}
	p.wantCounts(0, from, 0, 0, 0)
	for _, at := range []int{-1, 13} {
		_, err := p.get([]int{0}, at, 0)
		want(t, err, api.ErrBound)
		want(t, p.put([]int{0}, at, ""), api.ErrBound)
		want(t, p.wipe([]int{0}, at, 0), api.ErrBound)
	}
}

// Where the first file has data, its place is written over: the sectors alone, and no row.
func TestG3PutOverData(t *testing.T) {
	for from := range 4 {
		for n := 1; n <= 4-from; n++ {
			p := pairOf(t, spec{".D", 0, 1}, spec{"DD", 0, -1})
			w := p.writes(0)
			want(t, p.put([]int{0, 1}, 4+from, text(n, 9)), nil)
			p.wantFile(0, ".D", over(stood(0, 1), from, text(n, 9)))
			p.wantFile(1, "DD", stood(1, 0), stood(1, 1))
			p.wantCounts(0, w, n, n, 0)
			p.wantCounts(1, p.writes(1), 0, 0, 0)
		}
	}
}

// Where it has none, a place is taken, and beside the sectors stands what was seen.
func TestG3PutWhereThereIsNoData(t *testing.T) {
	for _, x := range []struct{ above, below, beside string }{
		{".", "D", stood(1, 0)},
		{".", "z", noughtCluster},
		{".", ".", noughtCluster},
		{"z", "D", noughtCluster},
		{"z", ".", noughtCluster},
	} {
		for from := range 4 {
			for n := 1; n <= 4-from; n++ {
				p := pairOf(t, spec{x.above, 2, 1}, spec{x.below, 0, -1})
				w := p.writes(0)
				want(t, p.put([]int{0, 1}, from, text(n, 9)), nil)
				p.wantFile(0, "D", over(x.beside, from, text(n, 9)))
				p.wantCounts(0, w, 5, 1, 1) // four sectors, flushed; the row
				p.wantCounts(1, p.writes(1), 0, 0, 0)
			}
		}
	}
}

func TestG3PutOfNoughtsIsData(t *testing.T) {
	p := pairOf(t, spec{".z", 2, 1}, spec{"DD", 0, -1})
	want(t, p.put([]int{0, 1}, 0, noughtCluster+noughtCluster), nil)
	p.wantFile(0, "DD", noughtCluster, noughtCluster)
}

// A range that begins within a cluster, has a whole one, and ends within another.
func TestG3PutOverSeveralClusters(t *testing.T) {
	p := pairOf(t, spec{".zD..", 4, 1}, spec{"DDDDD", 0, -1})
	w := p.writes(0)
	s := text(13, 9)
	want(t, p.put([]int{0, 1}, 3, s), nil)
	p.wantFile(0, "DDDD.", stood(1, 0)[:48]+s[:16], s[16:80], s[80:144], s[144:])
	p.wantCounts(0, w, 19, 1, 1)
	p = pairOf(t, spec{".zD..", 4, 1}, spec{"DDDDD", 0, -1})
	s = text(10, 9)
	want(t, p.put([]int{0, 1}, 6, s), nil)
	p.wantFile(0, ".DDD.", noughtCluster[:32]+s[:32], s[32:96], s[96:])
	p = pairOf(t, spec{".zD..", 4, 1}, spec{"DDDDD", 0, -1})
	want(t, p.put([]int{0, 1}, 6, s[:112]), nil)
	p.wantFile(0, ".DDD.", noughtCluster[:32]+s[:32], s[32:96], s[96:112]+stood(1, 3)[16:])
	p.wantFile(1, "DDDDD", stood(1, 0), stood(1, 1), stood(1, 2), stood(1, 3), stood(1, 4))
}

func TestG3WipeOfWholeClusters(t *testing.T) {
	p := pairOf(t, spec{".zD.", 0, 1}, spec{"DDDD", 0, -1})
	w := p.writes(0)
	want(t, p.wipe([]int{0, 1}, 0, 12), nil)
	p.wantFile(0, "zzz.")
	p.wantCounts(0, w, 2, 2, 0) // Zero is left alone; the place of the data is held
	p.wantSeen([]int{0, 1}, noughtCluster+noughtCluster+noughtCluster+stood(1, 3))
	p.flush(0)
	p.wantCounts(0, w, 2, 0, 1)
}

func TestG3WipeOfAPartOfACluster(t *testing.T) {
	for from := range 4 {
		for n := 1; n <= 4-from && n < 4; n++ {
			p := pairOf(t, spec{".zD.", 2, 1}, spec{"DDD.", 0, -1})
			l, gap := []int{0, 1}, noughtCluster[:16*n]
			w := p.writes(0)
			want(t, p.wipe(l, 4+from, n), nil)
			p.wantCounts(0, w, 0, 0, 2) // Zero: nothing
			want(t, p.wipe(l, 8+from, n), nil)
			p.wantCounts(0, w, n, n, 2) // Data: written over
			want(t, p.wipe(l, from, n), nil)
			p.wantCounts(0, w, n+5, 1, 1) // Absent: filled with what is below
			want(t, p.wipe(l, 12+from, n), nil)
			p.wantCounts(0, w, n+10, 1, 0) // also where nothing is
			p.wantFile(0, "DzDD", over(stood(1, 0), from, gap), over(stood(0, 2), from, gap), noughtCluster)
			p.wantFile(1, "DDD.", stood(1, 0), stood(1, 1), stood(1, 2))
		}
	}
}

func TestG3WipeOverSeveralClusters(t *testing.T) {
	p := pairOf(t, spec{"D.D.", 1, 1}, spec{"DDDD", 0, -1})
	want(t, p.wipe([]int{0, 1}, 2, 11), nil)
	p.wantFile(0, "DzzD", stood(0, 0)[:32]+noughtCluster[:32], noughtCluster[:16]+stood(1, 3)[16:])
}

// A whole wipe needs no place, one of a part does.
func TestG3WipeInAFullFile(t *testing.T) {
	p := pairOf(t, spec{"...D", 0, 1}, spec{"DDDD", 0, -1})
	l := []int{0, 1}
	want(t, p.wipe(l, 0, 4), nil)
	want(t, p.wipe(l, 5, 3), api.ErrFull)
	want(t, p.wipe(l, 4, 3), api.ErrFull)
	p.wantFile(0, "z..D", stood(0, 3))
	want(t, p.wipe(l, 4, 5), api.ErrFull) // the cluster ahead of the one that is full is wiped
	p.wantFile(0, "zz.D", stood(0, 3))
	want(t, p.wipe(l, 11, 5), api.ErrFull) // the one behind it is not
	p.wantFile(0, "zz.D", stood(0, 3))
	want(t, p.wipe(l, 2, 5), nil) // Zero: nothing
	want(t, p.wipe(l, 14, 2), nil)
	p.wantFile(0, "zz.D", stood(0, 3)[:32]+noughtCluster[:32])
	p.wantFile(1, "DDDD", stood(1, 0), stood(1, 1), stood(1, 2), stood(1, 3))
}

// A file that is full in the midst of a range: what is ahead stands, the cluster and all behind it are as they were.
func TestG3PutFillsTheFile(t *testing.T) {
	p := pairOf(t, spec{".z.D", 1, 1}, spec{"DDDD", 0, -1})
	l, s := []int{0, 1}, text(13, 9)
	want(t, p.put(l, 2, s), api.ErrFull)
	p.wantFile(0, "Dz.D", stood(1, 0)[:32]+s[:32], stood(0, 3))
	p.wantFile(1, "DDDD", stood(1, 0), stood(1, 1), stood(1, 2), stood(1, 3))
	p.wantSeen(l, stood(1, 0)[:32]+s[:32]+noughtCluster+stood(1, 2)+stood(0, 3))
	want(t, p.put(l, 1, text(3, 70)), nil) // data is still written over
	want(t, p.put(l, 12, text(4, 80)), nil)
	p.wantFile(0, "Dz.D", stood(1, 0)[:16]+text(3, 70), text(4, 80))
}

// A place that a wipe gave up is held till a flush: a Put just behind it finds the file full.
func TestG3AHeldPlaceIsNotTaken(t *testing.T) {
	p := pairOf(t, spec{"D.", 0, -1})
	want(t, p.wipe([]int{0}, 0, 4), nil)
	want(t, p.put([]int{0}, 4, text(1, 9)), api.ErrFull)
	p.wantFile(0, "z.")
	p.flush(0)
	want(t, p.put([]int{0}, 4, text(1, 9)), nil)
	p.wantFile(0, "zD", over(noughtCluster, 0, text(1, 9)))
}

// A device that fails in the midst of a range, at each of its writes.
func TestG3TheDeviceFails(t *testing.T) {
	s := text(11, 9)
	// Sectors 2 to 12: two of a cluster of data, an absent one (four writes and a row), one of zero (likewise), one of data.
	for n := range 13 {
		p := pairOf(t, spec{"D.zD", 2, 1}, spec{"DDDD", 0, -1})
		w := p.writes(0)
		p.fail(0, n)
		want(t, p.put([]int{0, 1}, 2, s), api.ErrIO)
		p.wantCounts(0, w, n, p.s[0].Dev().Pending(), p.s[0].Free())
		first := over(stood(0, 0), 2, s[:16*min(n, 2)])
		switch {
		case n < 7: // the second has no entry yet
			p.wantFile(0, "D.zD", first, stood(0, 3))
		case n < 12:
			p.wantFile(0, "DDzD", first, s[32:96], stood(0, 3))
		default:
			p.wantFile(0, "DDDD", first, s[32:96], s[96:160], stood(0, 3))
		}
		p.wantFile(1, "DDDD", stood(1, 0), stood(1, 1), stood(1, 2), stood(1, 3))
		want(t, p.put([]int{0, 1}, 2, s), nil) // it goes well again
		p.wantFile(0, "DDDD", over(stood(0, 0), 2, s[:32]), s[32:96], s[96:160], over(stood(0, 3), 0, s[160:]))
	}
	p := pairOf(t, spec{"D.zD", 2, 1}, spec{"DDDD", 0, -1})
	p.fail(0, 13)
	p.fail(1, 0) // a file below is not written to
	want(t, p.put([]int{0, 1}, 2, s), nil)
}

func TestG3TheDeviceFailsInAWipe(t *testing.T) {
	// Sectors 3 to 17: one of data, a whole absent one, a whole one of data, a whole zero one, two of an absent one.
	for n := range 8 {
		p := pairOf(t, spec{"D.Dz.", 1, 1}, spec{"DDDDD", 0, -1})
		w := p.writes(0)
		p.fail(0, n)
		want(t, p.wipe([]int{0, 1}, 3, 15), api.ErrIO)
		p.wantCounts(0, w, n, p.s[0].Dev().Pending(), p.s[0].Free())
		first := over(stood(0, 0), 3, noughtCluster[:16])
		switch n {
		case 0:
			p.wantFile(0, "D.Dz.", stood(0, 0), stood(0, 2))
		case 1:
			p.wantFile(0, "D.Dz.", first, stood(0, 2))
		case 2:
			p.wantFile(0, "DzDz.", first, stood(0, 2))
		default:
			p.wantFile(0, "Dzzz.", first)
		}
		p.wantFile(1, "DDDDD", stood(1, 0), stood(1, 1), stood(1, 2), stood(1, 3), stood(1, 4))
	}
	p := pairOf(t, spec{"D.Dz.", 1, 1}, spec{"DDDDD", 0, -1})
	p.fail(0, 8)
	want(t, p.wipe([]int{0, 1}, 3, 15), nil)
	p.wantFile(0, "DzzzD", over(stood(0, 0), 3, noughtCluster[:16]), noughtCluster[:32]+stood(1, 4)[32:])
}

// kept: of a range that was tried, each sector is as it was, or as it should be, and no other one is changed.
func kept(t *testing.T, was, is []string, from int, s string, err error) {
	t.Helper()
	for at := range was {
		should := was[at]
		if at >= from && at-from < len(s)/16 {
			should = s[16*(at-from) : 16*(at-from)+16]
		}
		if is[at] != should && (is[at] != was[at] || err == nil) {
			t.Fatalf("sector %d: %x, not %x (it was %x; %v)", at, is[at], should, was[at], err)
		}
	}
}

// Each range, over all kinds in two clusters of the first file, with room or without, failing or not.
func TestG3EachRangeOfTwoClusters(t *testing.T) {
	l := []int{0, 1}
	for k := range 9 {
		for _, free := range []int{0, 1, 2} {
			for fail := -1; fail < 10; fail++ {
				for from := range 8 {
					for n := 1; n <= 8-from; n++ {
						p := pairOf(t, spec{string(".zD"[k%3]) + string(".zD"[k/3]), free, 1}, spec{"D.", 0, -1})
						wipe := (from+n+free)%2 == 0
						s := text(n, 9)
						if wipe {
							s = strings.Repeat("\x00", 16*n)
						}
						if fail >= 0 {
							p.fail(0, fail)
						}
						was := p.m.all(l)
						var err error
						if wipe {
							err = p.wipe(l, from, n)
						} else {
							err = p.put(l, from, s)
						}
						kept(t, was, p.m.all(l), from, s, err)
					}
				}
			}
		}
	}
}

func TestG4MoveOfNoughts(t *testing.T) {
	for _, kind := range []string{".", "z", "D"} {
		p := pairOf(t, spec{"D", 0, 1}, spec{kind, 0, -1})
		w := p.writes(1)
		want(t, p.move(1, 0, noughtCluster), nil)
		p.wantFile(1, "z")
		p.wantFile(0, "D", stood(0, 0))
		p.wantCounts(1, w, map[string]int{".": 1, "z": 0, "D": 1}[kind], p.s[1].Dev().Pending(), 0)
	}
}

func TestG4MoveOfOtherBytes(t *testing.T) {
	texts := []string{text(4, 9)}
	for _, at := range []int{0, 1, 15, 16, 31, 48, 62, 63} { // one byte that is no nought
		texts = append(texts, noughtCluster[:at]+"\x01"+noughtCluster[at+1:])
		texts = append(texts, noughtCluster[:at]+"0"+noughtCluster[at+1:])
	}
	for _, s := range texts {
		p := pairOf(t, spec{"...", 0, 1}, spec{".zD", 2, -1})
		w := p.writes(1)
		want(t, p.move(1, 2, s), nil)
		p.wantCounts(1, w, 4, 4, 2) // over its data
		want(t, p.move(1, 1, s), nil)
		p.wantCounts(1, w, 9, 1, 1)
		want(t, p.move(1, 0, s), nil)
		p.wantCounts(1, w, 14, 1, 0)
		p.wantFile(1, "DDD", s, s, s)
		p.wantFile(0, "...")
	}
}

// The file that is named is meant, whatever is above or below it.
func TestG4MoveIntoEachFile(t *testing.T) {
	for file := range 5 {
		p := pairOf(t, spec{"..", 1, 1}, spec{"..", 1, 2}, spec{"..", 1, 3}, spec{"..", 1, 4}, spec{"..", 1, -1})
		want(t, p.move(file, 1, text(4, 9)), nil)
		for n := range 5 {
			if n == file {
				p.wantFile(n, ".D", text(4, 9))
			} else {
				p.wantFile(n, "..")
			}
		}
	}
}

func TestG4NoSuchCluster(t *testing.T) {
	p := pairOf(t, spec{"D.z", 2, -1})
	for _, c := range append([]int{3, 4, 8, 32}, far...) {
		for _, s := range []string{noughtCluster, text(4, 9)} {
			if err := p.move(0, c, s); err != api.ErrBound {
				t.Errorf("Move(0, %d): %v, not ErrBound", c, err)
			}
		}
	}
}

// What Write and Fill refuse, Move does.
func TestG4TextsThatAreNoCluster(t *testing.T) {
	p := pairOf(t, spec{"D.z", 2, -1})
	for _, bytes := range []int{1, 15, 17, 63, 65, 80, 128} {
		for c := range 3 {
			if err := p.move(0, c, text(8, 9)[:bytes]); err != api.ErrBound {
				t.Errorf("Move(0, %d) of %d bytes: %v, not ErrBound", c, bytes, err)
			}
		}
	}
	for c := 1; c < 3; c++ {
		want(t, p.move(0, c, text(3, 9)), api.ErrBound)
	}
	p.wantFile(0, "D.z", stood(0, 0))
	p.wantCounts(0, p.writes(0), 0, 0, 2)
}

func TestG4MoveIntoAFullFile(t *testing.T) {
	p := pairOf(t, spec{"D.z", 0, -1})
	want(t, p.move(0, 1, text(4, 9)), api.ErrFull)
	want(t, p.move(0, 2, text(4, 9)), api.ErrFull)
	p.wantFile(0, "D.z", stood(0, 0))
	want(t, p.move(0, 0, text(4, 9)), nil)
	want(t, p.move(0, 1, noughtCluster), nil)
	p.wantFile(0, "Dzz", text(4, 9))
	want(t, p.move(0, 0, noughtCluster), nil)
	want(t, p.move(0, 2, text(4, 9)), api.ErrFull) // the place is held
	p.flush(0)
	want(t, p.move(0, 2, text(4, 9)), nil)
	p.wantFile(0, "zzD", text(4, 9))
}

func TestG4TheDeviceFails(t *testing.T) {
	s := text(4, 9)
	for n := range 5 {
		p := pairOf(t, spec{"D.z", 2, 1}, spec{"DDD", 0, -1})
		for c := 1; c < 3; c++ {
			p.fail(0, n)
			want(t, p.move(0, c, s), api.ErrIO)
			p.wantFile(0, "D.z", stood(0, 0))
		}
		if n < 4 {
			p.fail(0, n)
			want(t, p.move(0, 0, s), api.ErrIO)
			p.wantFile(0, "D.z", over(stood(0, 0), 0, s[:16*n]))
		}
		if n == 0 {
			for c := range 2 {
				p.fail(0, n)
				want(t, p.move(0, c, noughtCluster), api.ErrIO)
			}
			p.wantFile(0, "D.z", stood(0, 0))
			p.fail(0, n)
			want(t, p.move(0, 2, noughtCluster), nil) // nothing is written
		}
		p.wantFile(1, "DDD", stood(1, 0), stood(1, 1), stood(1, 2))
	}
}

// Of lists that are none, and of files that aren't there, nothing is said but that no call panics.
func TestZ1AnyListAndAnyFile(t *testing.T) {
	numbers := append([]int{0, 1, 2, 3, 4, 5, 6}, far...)
	for _, a := range numbers {
		for _, b := range numbers {
			p := pairOf(t, spec{"..", 1, 2}, spec{}, spec{"DDDDD", 0, 0}, spec{"z", 0, 3})
			l := []int{a, b}
			_, _ = p.s.Walk(a)
			for _, c := range numbers {
				p.s.Found(l, c)
				_, _ = p.s.Read(l, c)
				_, _ = p.s.Get(l, c, 3)
				_, _ = p.s.Get(l, 2, c)
				_ = p.s.Put(l, c, text(3, 9))
				_ = p.s.Wipe(l, c, 3)
				_ = p.s.Wipe(l, 1, c)
				for _, bytes := range []int{0, 1, 16, 64, 65, 1600} {
					_ = p.s.Move(a, c, strings.Repeat("\x00", bytes))
					_ = p.s.Move(b, c, text(100, 9)[:bytes])
				}
			}
		}
	}
}

// The list stays as it is, and what stands behind it in memory is not asked.
func TestZ1NoShelf(t *testing.T) {
	var s *Shelf
	for _, n := range append([]int{0, 1, 4, 5}, far...) {
		if s.File(n) != nil {
			t.Errorf("File(%d) is there", n)
		}
		if l, err := s.Walk(n); len(l) != 0 || n != -1 && err != api.ErrNone {
			t.Errorf("Walk(%d) = %v, %v", n, l, err)
		}
		want(t, s.Move(n, 0, text(4, 9)), api.ErrNone)
	}
	l := []int{0, 1}
	if got := s.Found(l, 0); got != -1 {
		t.Errorf("Found = %d", got)
	}
	_, err := s.Read(l, 0)
	want(t, err, api.ErrBound)
	_, err = s.Get(l, 0, 1)
	want(t, err, api.ErrBound)
	want(t, s.Put(l, 0, text(1, 9)), api.ErrBound)
	want(t, s.Wipe(l, 0, 4), api.ErrBound)
}

func TestZ1FileOfANumber(t *testing.T) {
	p := pairOf(t, spec{".", 0, -1}, spec{}, spec{".", 0, -1})
	for n, i := range p.s {
		if p.s.File(n) != i {
			t.Errorf("File(%d) is another one", n)
		}
	}
	for _, n := range append([]int{5, 6}, far...) {
		if p.s.File(n) != nil {
			t.Errorf("File(%d) is there", n)
		}
	}
}

func TestZ2TheListIsNotKept(t *testing.T) {
	p := pairOf(t, spec{"..", 2, -1}, spec{"DD", 0, -1}, spec{"DD", 0, -1})
	memory := []int{0, 1, 2}
	l := memory[1:1]
	if got := p.s.Found(l, 0); got != -1 {
		t.Errorf("Found of an empty list with memory behind it = %d", got)
	}
	_, err := p.s.Read(l, 0)
	want(t, err, api.ErrNone)
	l = memory[:1]
	if s, err := p.read(l, 0); s != noughtCluster || err != nil {
		t.Errorf("Read = %x, %v", s, err)
	}
	want(t, p.put(l, 1, text(1, 9)), nil)
	want(t, p.wipe(l, 5, 1), nil)
	p.wantFile(0, "DD", over(noughtCluster, 1, text(1, 9)), noughtCluster)
	if !slices.Equal(memory, []int{0, 1, 2}) {
		t.Errorf("the list is %v", memory)
	}
}

func TestZ2TheAnswerIsTheCallers(t *testing.T) {
	p := pairOf(t, spec{".", 0, 1}, spec{".", 0, -1})
	a, err := p.walk(0)
	want(t, err, nil)
	b, err := p.walk(0)
	want(t, err, nil)
	a = append(a, 9)
	a[0], a[1] = 7, 8
	if !slices.Equal(b, []int{0, 1}) {
		t.Errorf("two answers share memory: %v", b)
	}
	if l, err := p.walk(0); !slices.Equal(l, []int{0, 1}) || err != nil {
		t.Errorf("Walk(0) = %v, %v", l, err)
	}
}

func TestZ2ShelvesGoApart(t *testing.T) {
	p, q := pairOf(t, spec{".", 1, -1}), pairOf(t, spec{".", 1, -1})
	want(t, p.put([]int{0}, 0, text(4, 9)), nil)
	p.wantFile(0, "D", text(4, 9))
	q.wantFile(0, ".")
	p.s[0], p.m[0] = nil, nil
	_, err := p.walk(0)
	want(t, err, api.ErrNone)
}

// Many calls in a row, with devices that fail: each as the model has it, and the guest reads what it wrote.
func TestG3G4LongRuns(t *testing.T) {
	for seed := range int64(60) {
		d := rand.New(rand.NewSource(seed))
		clusters := 1 + d.Intn(10)
		var files []spec
		for n := range 5 {
			kinds := ""
			for range clusters {
				kinds += string(".zD"[d.Intn(3)])
			}
			files = append(files, spec{kinds, d.Intn(4), n + 1})
		}
		files[4].back = -1
		p := pairOf(t, files...)
		l, err := p.walk(d.Intn(5))
		want(t, err, nil)
		for range 60 {
			randomCall(p, d, l, clusters)
		}
	}
}

func randomCall(p *pair, d *rand.Rand, l []int, clusters int) {
	p.t.Helper()
	from, n := d.Intn(4*clusters+2)-1, d.Intn(12)
	switch d.Intn(8) {
	case 0, 1:
		_ = p.put(l, from, text(n, byte(d.Intn(256))))
	case 2:
		_ = p.wipe(l, from, n)
	case 3:
		_, _ = p.get(l, from, n)
		_, _ = p.read(l, d.Intn(clusters+2)-1)
	case 4:
		_ = p.move(d.Intn(5), d.Intn(clusters+2)-1, text(4, byte(d.Intn(256))))
	case 5:
		_ = p.move(d.Intn(5), d.Intn(clusters+2)-1, noughtCluster)
	case 6:
		p.fail(d.Intn(5), d.Intn(9))
	case 7:
		p.flush(d.Intn(5))
	}
}
