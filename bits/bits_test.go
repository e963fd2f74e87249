package bits

import (
	"math"
	"slices"
	"testing"

	"stackyard/api"
)

// edges: numbers at and beyond every bound of a set of n.
func edges(n int) []int {
	return []int{math.MinInt, math.MinInt + 1, -1 << 32, -64, -1, 0, 1, n/2 - 1, n / 2, n - 2, n - 1, n, n + 1, 63, 64, 65, 127, 128, 1 << 32, math.MaxInt - 1, math.MaxInt}
}

// set of numbers below n, with these in it.
func set(t *testing.T, n int, in ...int) *Set {
	t.Helper()
	s, err := New(n)
	if err != nil || s == nil {
		t.Fatalf("New(%d) = %v, %v", n, s, err)
	}
	for _, i := range in {
		if !s.Put(i, true) {
			t.Fatalf("Put(%d, true) = false, in a set of %d", i, n)
		}
	}
	return s
}

// over: all that a range gives.
func over(all func(func(int) bool)) []int {
	l := []int{}
	for i := range all {
		l = append(l, i)
	}
	return l
}

// model of a set, by the words of E1: which of its numbers are in it.
type model []bool

func (m model) may(i int) bool { return 0 <= i && i < len(m) }

func (m model) has(i int) bool { return m.may(i) && m[i] }

func (m model) put(i int, in bool) bool {
	if !m.may(i) {
		return false
	}
	was := m[i]
	m[i] = in
	return was != in
}

func (m model) list() []int {
	l := []int{}
	for i, in := range m {
		if in {
			l = append(l, i)
		}
	}
	return l
}

func (m model) next(from int) (int, bool) {
	if m.may(from) {
		for i := from; i < len(m); i++ {
			if m[i] {
				return i, true
			}
		}
	}
	if l := m.list(); len(l) > 0 {
		return l[0], true
	}
	return 0, false
}

func (m model) join(o model) {
	for i, in := range o {
		if in && m.may(i) {
			m[i] = true
		}
	}
}

// look holds a set against its model, at all of its numbers and at those beyond.
func look(t *testing.T, s *Set, m model) {
	t.Helper()
	if s.Size() != len(m) {
		t.Fatalf("Size() = %d, not %d", s.Size(), len(m))
	}
	l := m.list()
	if s.Count() != len(l) {
		t.Fatalf("Count() = %d, of %v", s.Count(), l)
	}
	if got := over(s.All()); !slices.Equal(got, l) {
		t.Fatalf("All() goes over %v, not %v", got, l)
	}
	at := edges(len(m))
	for i := -2; i < 70; i++ {
		at = append(at, i)
	}
	for _, i := range at {
		if s.Has(i) != m.has(i) {
			t.Fatalf("Has(%d) = %v, of %v of %d", i, s.Has(i), l, len(m))
		}
		k, is := s.Next(i)
		if wk, wis := m.next(i); k != wk || is != wis {
			t.Fatalf("Next(%d) = %d, %v, not %d, %v, of %v of %d", i, k, is, wk, wis, l, len(m))
		}
	}
}

func TestE1NewAtAllSizes(t *testing.T) {
	for n := range api.MaxBits + 1 {
		look(t, set(t, n), make(model, n))
	}
}

func TestE1NewOutOfBounds(t *testing.T) {
	for _, n := range []int{-1, -2, -64, api.MaxBits + 1, api.MaxBits + 2, 128, 1 << 32, math.MinInt, math.MaxInt} {
		if s, err := New(n); s != nil || err != api.ErrBound {
			t.Errorf("New(%d) = %v, %v", n, s, err)
		}
	}
}

func TestE1PutTellsWhetherItChanged(t *testing.T) {
	s := set(t, 20)
	for _, c := range []struct {
		i           int
		in, changed bool
		count       int
	}{
		{7, false, false, 0}, {7, true, true, 1}, {7, true, false, 1}, {0, true, true, 2}, {19, true, true, 3},
		{7, false, true, 2}, {7, false, false, 2}, {20, true, false, 2}, {20, false, false, 2}, {-1, true, false, 2},
		{19, false, true, 1}, {0, false, true, 0}, {0, true, true, 1},
	} {
		if got := s.Put(c.i, c.in); got != c.changed || s.Count() != c.count || s.Has(c.i) != (c.in && c.i >= 0 && c.i < 20) {
			t.Errorf("Put(%d, %v) = %v, then Count() = %d, Has = %v", c.i, c.in, got, s.Count(), s.Has(c.i))
		}
	}
}

func TestE1PutBeyondChangesNothing(t *testing.T) {
	for _, n := range []int{0, 1, 5, 63, 64} {
		for _, in := range []bool{false, true} {
			s, m := set(t, n), make(model, n)
			for i := 0; i < n; i += 2 {
				s.Put(i, true)
				m.put(i, true)
			}
			for _, i := range edges(n) {
				if m.may(i) {
					continue
				}
				if s.Put(i, in) {
					t.Errorf("Put(%d, %v) = true, in a set of %d", i, in, n)
				}
				look(t, s, m)
			}
		}
	}
}

func TestE1EachNumberAlone(t *testing.T) {
	for _, n := range []int{1, 2, 31, 32, 33, 63, 64} {
		for i := range n {
			m := make(model, n)
			m.put(i, true)
			look(t, set(t, n, i), m)
		}
	}
}

func TestE1AllButOne(t *testing.T) {
	for _, n := range []int{1, 2, 33, 63, 64} {
		for out := range n {
			s, m := set(t, n), make(model, n)
			for i := range n {
				s.Put(i, true)
				m.put(i, true)
			}
			look(t, s, m)
			s.Put(out, false)
			m.put(out, false)
			look(t, s, m)
		}
	}
}

func TestE1Next(t *testing.T) {
	s := set(t, 20, 3, 7, 19)
	for _, c := range [][2]int{
		{0, 3}, {3, 3}, {4, 7}, {7, 7}, {8, 19}, {19, 19}, {20, 3}, {-1, 3}, {64, 3}, {math.MinInt, 3}, {math.MaxInt, 3},
	} {
		if k, is := s.Next(c[0]); k != c[1] || !is {
			t.Errorf("Next(%d) = %d, %v, not %d", c[0], k, is, c[1])
		}
	}
	s.Put(19, false)
	for from := 8; from < 21; from++ {
		if k, is := s.Next(from); k != 3 || !is {
			t.Errorf("Next(%d) = %d, %v: none is so great, 3 is the least", from, k, is)
		}
	}
	s.Put(3, false)
	s.Put(7, false)
	for _, from := range edges(20) {
		if k, is := s.Next(from); k != 0 || is {
			t.Errorf("Next(%d) = %d, %v, of an empty set", from, k, is)
		}
	}
}

func TestE1AllIsLeftAtAnyTime(t *testing.T) {
	in := []int{0, 1, 5, 31, 32, 62, 63}
	s := set(t, 64, in...)
	for most := range len(in) + 1 {
		got := []int{}
		s.All()(func(i int) bool {
			got = append(got, i)
			return len(got) <= most
		})
		if want := in[:min(most+1, len(in))]; !slices.Equal(got, want) {
			t.Errorf("left behind %d: %v, not %v", most, got, want)
		}
	}
	for i := range s.All() {
		if i == 5 {
			break
		}
	}
	if got := over(s.All()); !slices.Equal(got, in) {
		t.Errorf("behind one that was left: %v", got)
	}
}

func TestE1AllLeftIsBegunAnew(t *testing.T) {
	all := set(t, 64, 0, 9, 63).All()
	for i := range all {
		if i == 9 {
			break
		}
	}
	for range 2 {
		if got := over(all); !slices.Equal(got, []int{0, 9, 63}) {
			t.Errorf("gone over again: %v", got)
		}
	}
}

func TestE1AllWithinAll(t *testing.T) {
	s := set(t, 9, 1, 4, 8)
	all := s.All()
	got := []int{}
	for i := range all {
		for k := range all {
			got = append(got, 10*i+k)
		}
	}
	if want := []int{11, 14, 18, 41, 44, 48, 81, 84, 88}; !slices.Equal(got, want) {
		t.Errorf("one in the other: %v", got)
	}
}

func TestE1AllAsTheyWereWhenItWasCalled(t *testing.T) {
	s := set(t, 64, 2, 3, 40)
	early := s.All()
	s.Put(3, false)
	s.Put(63, true)
	s.Join(set(t, 8, 0))
	if got := over(early); !slices.Equal(got, []int{2, 3, 40}) {
		t.Errorf("All() of earlier: %v", got)
	}
	if got := over(s.All()); !slices.Equal(got, []int{0, 2, 40, 63}) {
		t.Errorf("All() of now: %v", got)
	}
}

func TestE1AllWhileItIsChanged(t *testing.T) {
	for name, change := range map[string]func(s *Set, i int){
		"takes out what was told": func(s *Set, i int) { s.Put(i, false) },
		"takes out what is ahead": func(s *Set, i int) { s.Put(40, false); s.Put(63, false) },
		"puts in what is ahead":   func(s *Set, i int) { s.Put(i+1, true); s.Put(62, true) },
		"puts in what is behind":  func(s *Set, i int) { s.Put(0, true) },
		"joins all":               func(s *Set, i int) { s.Join(set(t, 64, 0, 5, 41, 50, 62)) },
		"joins itself":            func(s *Set, i int) { s.Join(s) },
		"takes out and puts back": func(s *Set, i int) { s.Put(i, false); s.Put(i, true) },
	} {
		s := set(t, 64, 2, 3, 40, 63)
		got := []int{}
		for i := range s.All() {
			got = append(got, i)
			change(s, i)
			if len(got) > 64 {
				break
			}
		}
		if !slices.Equal(got, []int{2, 3, 40, 63}) {
			t.Errorf("%s: %v", name, got)
		}
	}
}

func TestE1ChangesWhileGoneOverHold(t *testing.T) {
	s := set(t, 64, 2, 3, 40, 63)
	for i := range s.All() {
		s.Put(i, false)
		s.Put(i-1, true)
	}
	m := make(model, 64)
	for _, i := range []int{1, 2, 39, 62} {
		m.put(i, true)
	}
	look(t, s, m)
}

func TestE1JoinAllSizes(t *testing.T) {
	for n := range api.MaxBits + 1 {
		for _, on := range []int{0, 1, n / 2, max(n-1, 0), n, min(n+1, 64), 63, 64} {
			s, m := set(t, n), make(model, n)
			o, om := set(t, on), make(model, on)
			for i := 0; i < n; i += 3 {
				s.Put(i, true)
				m.put(i, true)
			}
			for i := range on {
				o.Put(i, i%2 == 0)
				om.put(i, i%2 == 0)
			}
			s.Join(o)
			m.join(om)
			look(t, s, m)
			look(t, o, om)
		}
	}
}

func TestE1JoinSharesNothing(t *testing.T) {
	s, o := set(t, 10, 1), set(t, 12, 2, 11)
	s.Join(o)
	s.Put(2, false)
	s.Put(5, true)
	o.Put(11, false)
	o.Put(6, true)
	if got := over(s.All()); !slices.Equal(got, []int{1, 5}) {
		t.Errorf("the one: %v", got)
	}
	if got := over(o.All()); !slices.Equal(got, []int{2, 6}) {
		t.Errorf("the other: %v", got)
	}
}

func TestE1JoinItself(t *testing.T) {
	s := set(t, 64, 0, 33, 63)
	s.Join(s)
	if got := over(s.All()); !slices.Equal(got, []int{0, 33, 63}) {
		t.Errorf("joined with itself: %v", got)
	}
}

// play: bytes are calls on a set and another one, each held against the models.
func play(t *testing.T, calls []byte) {
	if len(calls) < 2 {
		return
	}
	sizes := [2]int{int(calls[0]) % 65, int(calls[1]) % 65}
	sets := [2]*Set{set(t, sizes[0]), set(t, sizes[1])}
	models := [2]model{make(model, sizes[0]), make(model, sizes[1])}
	for k := 2; k+1 < len(calls) && k < 400; k += 2 {
		which, i := int(calls[k])%2, int(calls[k+1])%70-3
		s, m := sets[which], models[which]
		switch calls[k] / 2 % 4 {
		case 0, 1:
			if got, want := s.Put(i, true), m.put(i, true); got != want {
				t.Fatalf("Put(%d, true) = %v", i, got)
			}
		case 2:
			if got, want := s.Put(i, false), m.put(i, false); got != want {
				t.Fatalf("Put(%d, false) = %v", i, got)
			}
		default:
			s.Join(sets[1-which])
			m.join(models[1-which])
		}
		look(t, sets[0], models[0])
		look(t, sets[1], models[1])
	}
}

func FuzzE1AgainstTheModel(f *testing.F) {
	seed := uint64(5)
	for range 30 {
		calls := make([]byte, 120)
		for i := range calls {
			seed = seed*6364136223846793005 + 1442695040888963407
			calls[i] = byte(seed >> 40)
		}
		f.Add(calls)
	}
	f.Add([]byte{64, 64, 0, 66, 1, 66, 4, 66, 6, 0, 7, 0})
	f.Fuzz(play)
}

func TestZ2SetsShareNothing(t *testing.T) {
	a, b := set(t, 64), set(t, 64)
	a.Put(9, true)
	look(t, b, make(model, 64))
}

func TestZ3ErrorsAreBare(t *testing.T) {
	_, err := New(-1)
	if e, ok := err.(api.Errno); !ok || e != api.ErrBound {
		t.Errorf("New(-1): %T %v", err, err)
	}
}
