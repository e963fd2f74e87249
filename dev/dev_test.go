package dev

import (
	"math"
	"slices"
	"strings"
	"testing"

	"stackyard/api"
)

// full sector of one letter.
func full(b byte) string { return strings.Repeat(string([]byte{b}), api.Sector) }

// filled: a sector of each letter.
func filled(letters string) string {
	var s strings.Builder
	for _, b := range []byte(letters) {
		s.WriteString(full(b))
	}
	return s.String()
}

// of letters: a device with a flushed sector of each.
func of(t *testing.T, letters string) *Dev {
	t.Helper()
	d, err := Of(filled(letters))
	if err != nil {
		t.Fatalf("Of(%q): %v", letters, err)
	}
	return d
}

// put writes sectors of one letter, each of which must go well: "1a" is a at sector 1.
func put(t *testing.T, d *Dev, l ...string) {
	t.Helper()
	for _, w := range l {
		if err := d.Write(int(w[0]-'0'), full(w[1])); err != nil {
			t.Fatalf("Write(%q): %v", w, err)
		}
	}
}

// reads: all that is read, sector by sector.
func reads(t *testing.T, d *Dev) string {
	t.Helper()
	var s strings.Builder
	for at := range d.Size() {
		x, err := d.Read(at)
		if err != nil || len(x) != api.Sector {
			t.Fatalf("Read(%d) = %q, %v", at, x, err)
		}
		s.WriteString(x)
	}
	return s.String()
}

// look holds a device against what it should be: letters that are read, letters that are flushed, numbers.
func look(t *testing.T, d *Dev, seen, flushed string, pending, writes int) {
	t.Helper()
	if got := reads(t, d); got != filled(seen) {
		t.Errorf("read is %q, not %q", got, filled(seen))
	}
	if got := d.Bytes(); got != filled(flushed) {
		t.Errorf("flushed is %q, not %q", got, filled(flushed))
	}
	if d.Size() != len(seen) || d.Pending() != pending || d.Writes() != writes {
		t.Errorf("Size %d, Pending %d, Writes %d, not %d, %d, %d", d.Size(), d.Pending(), d.Writes(), len(seen), pending, writes)
	}
}

func TestB1NewIsAllNoughts(t *testing.T) {
	for _, n := range []int{1, 2, 7, api.MaxSectors - 1, api.MaxSectors} {
		d, err := New(n)
		if err != nil {
			t.Fatalf("New(%d): %v", n, err)
		}
		look(t, d, strings.Repeat("\x00", n), strings.Repeat("\x00", n), 0, 0)
	}
}

func TestB1NewOutOfBounds(t *testing.T) {
	for _, n := range []int{0, -1, api.MaxSectors + 1, math.MaxInt, math.MinInt} {
		if d, err := New(n); d != nil || err != api.ErrBound {
			t.Errorf("New(%d) = %v, %v", n, d, err)
		}
	}
}

func TestB1OfBytes(t *testing.T) {
	look(t, of(t, "a"), "a", "a", 0, 0)
	look(t, of(t, "abc"), "abc", "abc", 0, 0)
	most := strings.Repeat("xyz", api.MaxSectors)[:api.MaxSectors]
	look(t, of(t, most), most, most, 0, 0)
	const mixed = "0123456789abcdef\x00\xff\xc3\x28456789abcdef"
	d, err := Of(mixed)
	if err != nil || d.Bytes() != mixed || reads(t, d) != mixed {
		t.Errorf("Of(%q): %v", mixed, err)
	}
}

func TestB1OfOutOfBounds(t *testing.T) {
	for _, n := range []int{0, 1, api.Sector - 1, api.Sector + 1, 3*api.Sector - 1, api.MaxSectors*api.Sector - 1, api.MaxSectors*api.Sector + 1, (api.MaxSectors + 1) * api.Sector} {
		if d, err := Of(strings.Repeat("a", n)); d != nil || err != api.ErrBound {
			t.Errorf("Of(%d bytes) = %v, %v", n, d, err)
		}
	}
}

func TestB1ReadTheLastWritten(t *testing.T) {
	d := of(t, "abc")
	put(t, d, "1x")
	look(t, d, "axc", "abc", 1, 1)
	put(t, d, "2y", "1z")
	look(t, d, "azy", "abc", 3, 3)
	put(t, d, "1b")
	look(t, d, "aby", "abc", 4, 4)
}

func TestB1ReadOutOfBounds(t *testing.T) {
	d := of(t, "abc")
	put(t, d, "0x")
	for _, at := range []int{-1, 3, api.MaxSectors, math.MaxInt, math.MinInt} {
		if s, err := d.Read(at); s != "" || err != api.ErrBound {
			t.Errorf("Read(%d) = %q, %v", at, s, err)
		}
	}
}

func TestB1WriteOutOfBounds(t *testing.T) {
	d := of(t, "abc")
	put(t, d, "0x")
	for _, at := range []int{-1, 3, api.MaxSectors, math.MaxInt, math.MinInt} {
		if err := d.Write(at, full('w')); err != api.ErrBound {
			t.Errorf("Write(%d) = %v", at, err)
		}
	}
	for _, n := range []int{0, 1, api.Sector - 1, api.Sector + 1, 2 * api.Sector} {
		if err := d.Write(1, strings.Repeat("w", n)); err != api.ErrBound {
			t.Errorf("Write of %d bytes = %v", n, err)
		}
	}
	look(t, d, "xbc", "abc", 1, 1)
}

func TestB1WriteKeepsAllBytes(t *testing.T) {
	d := of(t, "ab")
	const mixed = "\x00\xff\xc3\x28456789abcde\x00"
	if err := d.Write(1, mixed); err != nil {
		t.Fatal(err)
	}
	if s, err := d.Read(1); s != mixed || err != nil {
		t.Errorf("Read(1) = %q, %v", s, err)
	}
	d.Flush()
	if got := d.Bytes(); got != full('a')+mixed {
		t.Errorf("flushed is %q", got)
	}
}

func TestB1FlushInOrder(t *testing.T) {
	d := of(t, "abc")
	d.Flush()
	look(t, d, "abc", "abc", 0, 0)
	put(t, d, "0x", "2y", "0z")
	d.Flush()
	look(t, d, "zby", "zby", 0, 3)
	d.Flush()
	look(t, d, "zby", "zby", 0, 3)
	put(t, d, "1w", "0a")
	look(t, d, "awy", "zby", 2, 5)
	d.Flush()
	look(t, d, "awy", "awy", 0, 5)
}

func TestB1ManyWritesArePending(t *testing.T) {
	d := of(t, "abc")
	for range 1000 {
		put(t, d, "0x", "1y")
	}
	look(t, d, "xyc", "abc", 2000, 2000)
	keep := make([]bool, 2000)
	keep[1999] = true
	look(t, d.Crash(keep), "ayc", "ayc", 0, 2000)
}

// tries so many writes: '+' goes well, '-' is ErrIO.
func tries(t *testing.T, d *Dev, n int) string {
	t.Helper()
	s := ""
	for range n {
		switch err := d.Write(0, full('w')); err {
		case nil:
			s += "+"
		case api.ErrIO:
			s += "-"
		default:
			t.Fatalf("Write: %v", err)
		}
	}
	return s
}

func TestB2OneWriteFails(t *testing.T) {
	for n, want := range []string{"-+++++", "+-++++", "++-+++", "+++-++"} {
		d := of(t, "ab")
		if err := d.Fail(n); err != nil {
			t.Fatalf("Fail(%d): %v", n, err)
		}
		if got := tries(t, d, 6); got != want {
			t.Errorf("Fail(%d): %s, not %s", n, got, want)
		}
		look(t, d, "wb", "ab", 5, 5)
	}
	if got := tries(t, of(t, "ab"), 6); got != "++++++" {
		t.Errorf("without Fail: %s", got)
	}
}

func TestB2FailedWriteChangesNothing(t *testing.T) {
	d := of(t, "ab")
	put(t, d, "0x")
	if err := d.Fail(0); err != nil {
		t.Fatal(err)
	}
	if err := d.Write(1, full('w')); err != api.ErrIO {
		t.Fatalf("Write = %v", err)
	}
	look(t, d, "xb", "ab", 1, 1)
	d.Flush()
	look(t, d, "xb", "xb", 0, 1)
}

func TestB2FailTakesThePlaceOfOneAhead(t *testing.T) {
	for _, c := range []struct {
		first, tried, then int
		want               string
	}{
		{0, 0, 2, "++-+++"},
		{2, 0, 0, "-+++++"},
		{3, 2, 3, "+++-++"},
		{0, 1, 1, "+-++++"},
		{1, 1, math.MaxInt, "++++++"},
	} {
		d := of(t, "ab")
		d.Fail(c.first)
		tries(t, d, c.tried)
		d.Fail(c.then)
		if got := tries(t, d, 6); got != c.want {
			t.Errorf("%+v: %s", c, got)
		}
	}
}

func TestB2FailOutOfBoundsChangesNothing(t *testing.T) {
	for _, n := range []int{-1, -2, math.MinInt} {
		d := of(t, "ab")
		if err := d.Fail(n); err != api.ErrBound {
			t.Errorf("Fail(%d) = %v", n, err)
		}
		if got := tries(t, d, 3); got != "+++" {
			t.Errorf("behind Fail(%d): %s", n, got)
		}
		d.Fail(1)
		if err := d.Fail(n); err != api.ErrBound {
			t.Errorf("Fail(%d) = %v", n, err)
		}
		if got := tries(t, d, 3); got != "+-+" {
			t.Errorf("Fail(1), and then Fail(%d): %s", n, got)
		}
	}
}

func TestB2WriteOutOfBoundsDoesNotCount(t *testing.T) {
	d := of(t, "ab")
	d.Fail(1)
	wrong := func() {
		if err := d.Write(2, full('w')); err != api.ErrBound {
			t.Errorf("Write(2) = %v", err)
		}
		if err := d.Write(0, "short"); err != api.ErrBound {
			t.Errorf("Write of few bytes = %v", err)
		}
	}
	wrong()
	if got := tries(t, d, 1); got != "+" {
		t.Errorf("the first write: %s", got)
	}
	wrong()
	if got := tries(t, d, 3); got != "-++" {
		t.Errorf("the writes behind it: %s", got)
	}
}

func TestB2FlushAndReadDoNotCount(t *testing.T) {
	d := of(t, "ab")
	d.Fail(1)
	d.Flush()
	reads(t, d)
	if got := tries(t, d, 1); got != "+" {
		t.Errorf("the first write: %s", got)
	}
	d.Flush()
	if got := tries(t, d, 2); got != "-+" {
		t.Errorf("the writes behind it: %s", got)
	}
}

func TestB3CrashKeepsAnyPart(t *testing.T) {
	at := []int{0, 1, 0, 2, 0}
	letters := "vwxyz"
	for mask := range 1 << len(at) {
		d := of(t, "abc")
		want := []byte("abc")
		keep := make([]bool, len(at))
		for i := range at {
			put(t, d, string([]byte{byte('0' + at[i]), letters[i]}))
			if keep[i] = mask>>i&1 == 1; keep[i] {
				want[at[i]] = letters[i]
			}
		}
		look(t, d.Crash(keep), string(want), string(want), 0, 5)
		look(t, d, "zwy", "abc", 5, 5)
	}
}

func TestB3CrashOfListsOfOtherLengths(t *testing.T) {
	d := of(t, "abc")
	put(t, d, "0x", "1y", "2z")
	for _, c := range []struct {
		keep []bool
		want string
	}{
		{nil, "abc"},
		{[]bool{}, "abc"},
		{[]bool{true}, "xbc"},
		{[]bool{false, true}, "ayc"},
		{[]bool{true, true, true}, "xyz"},
		{[]bool{false, false, true, true, true, true}, "abz"},
		{make([]bool, 1000), "abc"},
	} {
		look(t, d.Crash(c.keep), c.want, c.want, 0, 3)
	}
	look(t, of(t, "ab").Crash([]bool{true, true}), "ab", "ab", 0, 0)
}

func TestB3CrashBehindFlush(t *testing.T) {
	d := of(t, "abc")
	put(t, d, "0x", "1y")
	d.Flush()
	put(t, d, "2z", "0w")
	look(t, d.Crash(nil), "xyc", "xyc", 0, 4)
	look(t, d.Crash([]bool{true}), "xyz", "xyz", 0, 4)
	look(t, d.Crash([]bool{false, true}), "wyc", "wyc", 0, 4)
}

func TestB3CrashLeavesTheListAlone(t *testing.T) {
	d := of(t, "abc")
	put(t, d, "0x", "1y", "2z")
	room := []bool{true, false, true, true}
	look(t, d.Crash(room[:2]), "xbc", "xbc", 0, 3)
	if !slices.Equal(room, []bool{true, false, true, true}) {
		t.Errorf("the list was written into: %v", room)
	}
	keep := []bool{true, true, true}
	x := d.Crash(keep)
	clear(keep)
	look(t, x, "xyz", "xyz", 0, 3)
}

func TestB3CrashHasNoFailAhead(t *testing.T) {
	d := of(t, "ab")
	d.Fail(1)
	x := d.Crash(nil)
	if got := tries(t, x, 4); got != "++++" {
		t.Errorf("behind the crash: %s", got)
	}
	if got := tries(t, d, 3); got != "+-+" {
		t.Errorf("this one: %s", got)
	}
}

func TestB3CrashGoesOnApart(t *testing.T) {
	d := of(t, "abc")
	put(t, d, "0x")
	x := d.Crash([]bool{true})
	put(t, x, "1v")
	x.Flush()
	put(t, d, "2w")
	look(t, x, "xvc", "xvc", 0, 2)
	look(t, d, "xbw", "abc", 2, 2)
	d.Flush()
	look(t, x.Crash(nil), "xvc", "xvc", 0, 2)
	look(t, d, "xbw", "xbw", 0, 2)
}

func TestB3CopyIsTheSameInAll(t *testing.T) {
	d := of(t, "abc")
	put(t, d, "0x")
	d.Flush()
	put(t, d, "1y", "1z")
	d.Fail(1)
	c := d.Copy()
	look(t, c, "xzc", "xbc", 2, 3)
	look(t, c.Crash([]bool{true}), "xyc", "xyc", 0, 3)
	if got := tries(t, c, 3); got != "+-+" {
		t.Errorf("the copy: %s", got)
	}
	if got := tries(t, d, 3); got != "+-+" {
		t.Errorf("this one: %s", got)
	}
	if got := tries(t, d.Copy(), 3); got != "+++" {
		t.Errorf("a copy behind the failure: %s", got)
	}
}

func TestB3CopyGoesOnApart(t *testing.T) {
	d := of(t, "abc")
	for _, w := range []string{"0x", "1y", "2z"} { // several, so that a shared list would have room left
		put(t, d, w)
	}
	c := d.Copy()
	put(t, c, "0v")
	put(t, d, "1w")
	look(t, c, "vyz", "abc", 4, 4)
	look(t, d, "xwz", "abc", 4, 4)
	all := []bool{true, true, true, true}
	look(t, c.Crash(all), "vyz", "vyz", 0, 4)
	look(t, d.Crash(all), "xwz", "xwz", 0, 4)
	c.Flush()
	look(t, d, "xwz", "abc", 4, 4)
	d.Flush()
	c.Fail(0)
	put(t, d, "0d")
	look(t, c, "vyz", "vyz", 0, 4)
	look(t, d, "dwz", "xwz", 1, 5)
}
