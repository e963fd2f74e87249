package shape

import (
	"encoding/hex"
	"fmt"
	"hash/crc32"
	"math"
	"slices"
	"strings"
	"testing"

	"stackyard/api"
)

// far: numbers that no bound lets through, those that a byte or two bytes would cut to a good one among them.
var far = []int{math.MinInt, math.MinInt + 1, -1 << 32, -65536, -256, -2, 256, 257, 258, 65536, 1 << 32, math.MaxInt - 1, math.MaxInt}

// seal is a sealed sector, word by word, with the library's sum.
func seal(b []byte) string {
	if len(b) != 12 {
		panic("a sealed sector has twelve bytes and a sum")
	}
	s := crc32.ChecksumIEEE(b)
	return string(b) + string([]byte{byte(s), byte(s >> 8), byte(s >> 16), byte(s >> 24)})
}

// changed: s with another byte at a place.
func changed(s string, at int, b byte) string {
	l := []byte(s)
	l[at] = b
	return string(l)
}

func headOf(t *testing.T, h api.Head) string {
	t.Helper()
	s, err := Head(h)
	if err != nil {
		t.Fatalf("Head(%v): %v", h, err)
	}
	return s
}

func deskOf(t *testing.T, d api.Desk) string {
	t.Helper()
	s, err := Desk(d)
	if err != nil {
		t.Fatalf("Desk(%v): %v", d, err)
	}
	return s
}

// noHead: a sector that must be refused, with that error and no head.
func noHead(t *testing.T, s string, want error) {
	t.Helper()
	if h, err := ReadHead(s); err != want || h != (api.Head{}) {
		t.Errorf("ReadHead(%x) = %v, %v, not %v", s, h, err, want)
	}
}

// noDesk: likewise.
func noDesk(t *testing.T, s string, want error) {
	t.Helper()
	if d, err := ReadDesk(s); err != want || d != (api.Desk{}) {
		t.Errorf("ReadDesk(%x) = %v, %v, not %v", s, d, err, want)
	}
}

func TestC1HeadOfTheDocument(t *testing.T) {
	s := headOf(t, api.Head{Clusters: 3, Places: 6, Back: -1})
	if got := hex.EncodeToString([]byte(s)); got != "535903060000000000000000bb6feeab" {
		t.Errorf("Head = %s", got)
	}
}

func TestC1EveryHead(t *testing.T) {
	for clusters := 1; clusters <= 32; clusters++ {
		for places := 0; places <= 40; places++ {
			for back := -1; back <= 4; back++ {
				h := api.Head{Clusters: clusters, Places: places, Back: back}
				if err := CheckHead(h); err != nil {
					t.Fatalf("CheckHead(%v) = %v", h, err)
				}
				want := seal([]byte{'S', 'Y', byte(clusters), byte(places), byte(back + 1), 0, 0, 0, 0, 0, 0, 0})
				if got := headOf(t, h); got != want {
					t.Fatalf("Head(%v) = %x, not %x", h, got, want)
				}
				if got, err := ReadHead(want); got != h || err != nil {
					t.Fatalf("ReadHead(%x) = %v, %v, not %v", want, got, err, h)
				}
			}
		}
	}
}

func TestC1HeadOutOfBounds(t *testing.T) {
	l := []api.Head{
		{}, {Clusters: 0, Places: 6, Back: -1}, {Clusters: -1, Places: 6, Back: -1}, {Clusters: 33, Places: 6, Back: -1},
		{Clusters: 3, Places: -1, Back: -1}, {Clusters: 3, Places: 41, Back: -1},
		{Clusters: 3, Places: 6, Back: -2}, {Clusters: 3, Places: 6, Back: 5},
	}
	for _, n := range far {
		l = append(l, api.Head{Clusters: n, Places: 6, Back: -1}, api.Head{Clusters: 3, Places: n, Back: -1}, api.Head{Clusters: 3, Places: 6, Back: n}, api.Head{Clusters: n, Places: n, Back: n})
	}
	for _, h := range l {
		if err := CheckHead(h); err != api.ErrBound {
			t.Errorf("CheckHead(%v) = %v", h, err)
		}
		if s, err := Head(h); s != "" || err != api.ErrBound {
			t.Errorf("Head(%v) = %x, %v", h, s, err)
		}
	}
}

func TestC1ReadHeadOfOtherLengths(t *testing.T) {
	s := headOf(t, api.Head{Clusters: 3, Places: 6, Back: -1})
	for _, x := range []string{"", "S", s[:15], s[:12], s[1:], s + "\x00", s + s, strings.Repeat("\x00", 4000)} {
		noHead(t, x, api.ErrBound)
	}
}

func TestC1ReadHeadNotSealed(t *testing.T) {
	s := headOf(t, api.Head{Clusters: 3, Places: 6, Back: 2})
	for bit := range 8 * len(s) {
		noHead(t, changed(s, bit/8, s[bit/8]^1<<(bit%8)), api.ErrSum)
	}
	noHead(t, s[:12]+s[15:]+s[14:15]+s[13:14]+s[12:13], api.ErrSum) // the sum's highest byte first
	noHead(t, strings.Repeat("\x00", 16), api.ErrSum)
	noHead(t, strings.Repeat("\xff", 16), api.ErrSum)
	noHead(t, "0123456789abcdef", api.ErrSum)
}

// Every byte of the twelve is made every other thing, and sealed again: it is another head, or none.
func TestC1ReadHeadOfEveryByte(t *testing.T) {
	s := headOf(t, api.Head{Clusters: 3, Places: 6, Back: -1})
	bounds := map[int][2]int{2: {1, 32}, 3: {0, 40}, 4: {0, 5}}
	for at := range 12 {
		for b := range 256 {
			if byte(b) == s[at] {
				continue
			}
			x := seal([]byte(changed(s, at, byte(b)))[:12])
			if m, ok := bounds[at]; !ok || b < m[0] || b > m[1] {
				noHead(t, x, api.ErrShape)
				continue
			}
			want := api.Head{Clusters: int(x[2]), Places: int(x[3]), Back: int(x[4]) - 1}
			if h, err := ReadHead(x); h != want || err != nil {
				t.Errorf("ReadHead(%x) = %v, %v, not %v", x, h, err, want)
			}
		}
	}
}

func TestC1ReadHeadOfADesk(t *testing.T) {
	noHead(t, deskOf(t, api.Desk{Root: 1, Kind: api.Stream, File: -1}), api.ErrShape)
	noHead(t, seal(make([]byte, 12)), api.ErrShape)
	noHead(t, seal([]byte("YS\x03\x06\x00\x00\x00\x00\x00\x00\x00\x00")), api.ErrShape)
}

func TestC2Rows(t *testing.T) {
	for clusters, want := range []int{0, 1, 1, 1, 1, 1, 1, 1, 1, 2, 2, 2, 2, 2, 2, 2, 2, 3, 3, 3, 3, 3, 3, 3, 3, 4, 4, 4, 4, 4, 4, 4, 4} {
		if got := Rows(clusters); got != want {
			t.Errorf("Rows(%d) = %d, not %d", clusters, got, want)
		}
	}
	for _, n := range append(far, -1, -7, -8, 33) {
		Rows(n) // nothing is said of these, but that it ends
	}
}

// rowsOf a table, each of which must be made.
func rowsOf(t *testing.T, l []api.Entry) []string {
	t.Helper()
	var rows []string
	for row := range Rows(len(l)) {
		s, err := Row(l, row)
		if err != nil {
			t.Fatalf("Row(%v, %d): %v", l, row, err)
		}
		rows = append(rows, s)
	}
	return rows
}

// mixed table of n entries, of all kinds, with places that fall from 39 on.
func mixed(n int) []api.Entry {
	l := make([]api.Entry, n)
	for i := range l {
		l[i] = []api.Entry{{Kind: api.Data, Place: 39 - i}, {Kind: api.Absent}, {Kind: api.Zero}, {Kind: api.Data, Place: 39 - i}}[i%4]
	}
	return l
}

func TestC2RowOfTheDocument(t *testing.T) {
	s, err := Row([]api.Entry{{Kind: api.Absent}, {Kind: api.Zero}, {Kind: api.Data, Place: 5}}, 0)
	if got := hex.EncodeToString([]byte(s)); got != "00000100020500000000000000000000" || err != nil {
		t.Errorf("Row = %s, %v", got, err)
	}
}

func TestC2RowsOfEveryLength(t *testing.T) {
	for n := range 33 {
		l := mixed(n)
		for row := range (n + 7) / 8 {
			want := make([]byte, 16)
			for i := range 8 {
				if c := 8*row + i; c < n {
					want[2*i], want[2*i+1] = byte(l[c].Kind), byte(l[c].Place)
				}
			}
			if s, err := Row(l, row); s != string(want) || err != nil {
				t.Errorf("Row(%d entries, %d) = %x, %v, not %x", n, row, s, err, want)
			}
		}
		if !slices.Equal(l, mixed(n)) {
			t.Errorf("the table was written into: %v", l)
		}
	}
}

func TestC2RowOutOfBounds(t *testing.T) {
	wrong := api.Entry{Kind: 3}
	for _, c := range []struct {
		n    int
		rows []int
	}{
		{0, []int{-1, 0, 1}}, {1, []int{-1, 1}}, {8, []int{-1, 1, 2}}, {9, []int{-1, 2}}, {32, []int{-1, 4, 5}},
		{33, []int{-1, 0, 1, 3, 4, 5}}, {40, []int{0, 4}}, {1000, []int{0, 1, 124}},
	} {
		for _, row := range append(c.rows, far...) {
			l := mixed(min(c.n, 33))
			for len(l) < c.n {
				l = append(l, api.Entry{})
			}
			if s, err := Row(l, row); s != "" || err != api.ErrBound {
				t.Errorf("Row(%d entries, %d) = %x, %v", c.n, row, s, err)
			}
			for i := range l {
				l[i] = wrong
			}
			if s, err := Row(l, row); s != "" || err != api.ErrBound {
				t.Errorf("Row(%d wrong entries, %d) = %x, %v", c.n, row, s, err)
			}
		}
	}
	if s, err := Row(nil, 0); s != "" || err != api.ErrBound {
		t.Errorf("Row(nil, 0) = %x, %v", s, err)
	}
}

// A row's own entries are asked alone, and not what stands behind the table in memory.
func TestC2RowReadsNoOtherEntries(t *testing.T) {
	l := mixed(32)
	l[7], l[16] = api.Entry{Kind: -1}, api.Entry{Kind: api.Zero, Place: 1}
	for row, want := range []error{api.ErrShape, nil, api.ErrShape, nil} {
		if s, err := Row(l, row); err != want || (s == "") != (want != nil) {
			t.Errorf("Row %d = %x, %v, not %v", row, s, err, want)
		}
	}
	room := append(mixed(3), api.Entry{Kind: 9, Place: 9})
	if s, err := Row(room[:3], 0); s != rowsOf(t, mixed(3))[0] || err != nil {
		t.Errorf("Row = %x, %v", s, err)
	}
}

// isOne: may it be an entry? Promise C2 word by word.
func isOne(e api.Entry) bool {
	if e.Kind == api.Data {
		return e.Place >= 0 && e.Place < api.MaxPlaces
	}
	return (e.Kind == api.Absent || e.Kind == api.Zero) && e.Place == 0
}

func TestC2RowOfEveryEntry(t *testing.T) {
	numbers := append([]int{-1, 0, 1, 2, 3, 4, 5, 38, 39, 40, 41, 42, 255}, far...)
	for _, kind := range numbers {
		for _, place := range numbers {
			e := api.Entry{Kind: kind, Place: place}
			s, err := Row([]api.Entry{{Kind: api.Zero}, e}, 0)
			if !isOne(e) {
				if s != "" || err != api.ErrShape {
					t.Errorf("Row of %v = %x, %v", e, s, err)
				}
				continue
			}
			want := "\x01\x00" + string([]byte{byte(kind), byte(place)}) + strings.Repeat("\x00", 12)
			if s != want || err != nil {
				t.Errorf("Row of %v = %x, %v, not %x", e, s, err, want)
			}
		}
	}
}

// Two entries at one place are no wrong of a row: whether they are is asked of the whole table, as it is read.
func TestC2RowDoesNotHoldPlacesTogether(t *testing.T) {
	s, err := Row([]api.Entry{{Kind: api.Data, Place: 1}, {Kind: api.Data, Place: 1}}, 0)
	if s != "\x02\x01\x02\x01"+strings.Repeat("\x00", 12) || err != nil {
		t.Errorf("Row = %x, %v", s, err)
	}
}

func TestC2ReadTableOfEveryLength(t *testing.T) {
	for n := 1; n <= 32; n++ {
		rows := rowsOf(t, mixed(n))
		was := slices.Clone(rows)
		l, err := ReadTable(api.Head{Clusters: n, Places: 40, Back: -1}, rows)
		if !slices.Equal(l, mixed(n)) || err != nil {
			t.Errorf("ReadTable of %d = %v, %v", n, l, err)
		}
		if !slices.Equal(rows, was) {
			t.Errorf("the rows were written into: %x", rows)
		}
		for _, back := range []int{0, 4} {
			if x, err := ReadTable(api.Head{Clusters: n, Places: 40, Back: back}, rows); !slices.Equal(x, l) || err != nil {
				t.Errorf("ReadTable of %d, Back %d = %v, %v", n, back, x, err)
			}
		}
	}
}

// noTable: rows that must be refused, with that error and no table.
func noTable(t *testing.T, h api.Head, rows []string, want error) {
	t.Helper()
	if l, err := ReadTable(h, rows); len(l) != 0 || err != want {
		t.Errorf("ReadTable(%v, %x) = %v, %v, not %v", h, rows, l, err, want)
	}
}

func TestC2ReadTableOfAWrongHead(t *testing.T) {
	row := strings.Repeat("\x00", 16)
	wrong := strings.Repeat("\xff", 16)
	for _, h := range []api.Head{{}, {Clusters: 33, Places: 40}, {Clusters: 8, Places: 41}, {Clusters: 8, Places: -1}, {Clusters: 8, Back: 5}, {Clusters: 8, Back: -2}, {Clusters: -8}, {Clusters: math.MaxInt}, {Clusters: math.MinInt}} {
		for _, rows := range [][]string{nil, {row}, {wrong}, {row, row, row, row, row}} {
			noTable(t, h, rows, api.ErrBound)
		}
	}
}

func TestC2ReadTableOfAnotherNumberOfRows(t *testing.T) {
	wrong := strings.Repeat("\xff", 16)
	for n := 1; n <= 32; n++ {
		h := api.Head{Clusters: n, Places: 40, Back: -1}
		rows := append(rowsOf(t, mixed(n)), strings.Repeat("\x00", 16))
		noTable(t, h, rows, api.ErrBound)
		noTable(t, h, rows[:len(rows)-2], api.ErrBound)
		noTable(t, h, nil, api.ErrBound)
		rows[0] = wrong
		noTable(t, h, rows, api.ErrBound)
		if l, err := ReadTable(h, rows[:len(rows)-1]); len(l) != 0 || err != api.ErrShape {
			t.Errorf("ReadTable of %d wrong ones = %v, %v", n, l, err)
		}
	}
}

func TestC2ReadTableOfRowsOfOtherLengths(t *testing.T) {
	h := api.Head{Clusters: 20, Places: 40, Back: -1}
	for at := range 3 {
		rows := rowsOf(t, mixed(20))
		s := rows[at]
		for _, x := range []string{"", s[:1], s[:8], s[:15], s + "\x00", s + s, strings.Repeat("\xff", 15)} {
			rows[at] = x
			noTable(t, h, rows, api.ErrBound)
		}
	}
}

// Of all rows the first that is wrong is told, by its own error.
func TestC2ReadTableTellsTheFirst(t *testing.T) {
	h := api.Head{Clusters: 20, Places: 40, Back: -1}
	bad := strings.Repeat("\x00", 14) + "\x03\x00"
	for first := range 3 {
		for second := first + 1; second < 3; second++ {
			rows := rowsOf(t, mixed(20))
			rows[first], rows[second] = bad, "short"
			noTable(t, h, rows, api.ErrShape)
			rows[first], rows[second] = "short", bad
			noTable(t, h, rows, api.ErrBound)
		}
	}
	rows := rowsOf(t, mixed(20))
	rows[1] = changed(rows[1], 0, 7)[:15] // a row's length is asked ahead of its entries
	noTable(t, h, rows, api.ErrBound)
}

func TestC2ReadTableOfEveryEntry(t *testing.T) {
	for _, places := range []int{0, 1, 6, 39, 40} {
		h := api.Head{Clusters: 9, Places: places, Back: 0}
		for kind := range 256 {
			for place := range 256 {
				e := api.Entry{Kind: kind, Place: place}
				for _, at := range []int{0, 7, 8} {
					want := make([]api.Entry, 9)
					want[at] = e
					b := make([]byte, 32)
					b[2*at], b[2*at+1] = byte(kind), byte(place)
					l, err := ReadTable(h, []string{string(b[:16]), string(b[16:])})
					if isOne(e) && (kind != api.Data || place < places) {
						if !slices.Equal(l, want) || err != nil {
							t.Fatalf("ReadTable of %v at %d, %d places = %v, %v", e, at, places, l, err)
						}
					} else if len(l) != 0 || err != api.ErrShape {
						t.Fatalf("ReadTable of %v at %d, %d places = %v, %v", e, at, places, l, err)
					}
				}
			}
		}
	}
}

func TestC2ReadTableOfAPlaceTwice(t *testing.T) {
	for i := range 32 {
		for j := range i {
			for _, place := range []int{0, 1, 39} {
				l := make([]api.Entry, 32)
				l[i], l[j] = api.Entry{Kind: api.Data, Place: place}, api.Entry{Kind: api.Data, Place: place}
				noTable(t, api.Head{Clusters: 32, Places: 40, Back: -1}, rowsOf(t, l), api.ErrShape)
			}
		}
	}
}

// Only Data has a place: what isn't takes the place 0 from nobody.
func TestC2ReadTablePlaceZeroBehindOthers(t *testing.T) {
	want := []api.Entry{{Kind: api.Absent}, {Kind: api.Zero}, {Kind: api.Data, Place: 0}, {Kind: api.Zero}, {Kind: api.Absent}}
	l, err := ReadTable(api.Head{Clusters: 5, Places: 1, Back: -1}, rowsOf(t, want))
	if !slices.Equal(l, want) || err != nil {
		t.Errorf("ReadTable = %v, %v", l, err)
	}
}

func TestC2ReadTableBehindTheLastEntry(t *testing.T) {
	for _, n := range []int{1, 3, 7, 9, 15, 25, 31} {
		h := api.Head{Clusters: n, Places: 40, Back: -1}
		rows := rowsOf(t, mixed(n))
		last := rows[len(rows)-1]
		for at := 2 * ((n-1)%8 + 1); at < 16; at++ {
			for _, b := range []byte{1, 2, 255} {
				rows[len(rows)-1] = changed(last, at, b)
				noTable(t, h, rows, api.ErrShape)
			}
		}
	}
}

func TestC2ReadTableIsTheCallers(t *testing.T) {
	h := api.Head{Clusters: 9, Places: 40, Back: -1}
	room := append(rowsOf(t, mixed(9)), "behind")
	a, err := ReadTable(h, room[:2])
	if err != nil {
		t.Fatal(err)
	}
	b, err := ReadTable(h, room[:2])
	if err != nil {
		t.Fatal(err)
	}
	clear(a)
	if !slices.Equal(b, mixed(9)) {
		t.Errorf("two tables share memory: %v", b)
	}
}

func TestC3DeskOfTheDocument(t *testing.T) {
	s := deskOf(t, api.Desk{Root: 1, Kind: api.Stream, File: -1, Rate: 300, Burst: 1000})
	if got := hex.EncodeToString([]byte(s)); got != "444b0102002c01e8030000004e34bdb5" {
		t.Errorf("Desk = %s", got)
	}
}

// deskError is what promise C3 says of a desk, word by word.
func deskError(d api.Desk) error {
	for _, b := range [][3]int{{d.Root, 0, 4}, {d.Kind, 0, 3}, {d.File, -1, 4}, {d.Rate, 0, 1000}, {d.Burst, 0, 1000}} {
		if b[0] < b[1] || b[0] > b[2] {
			return api.ErrBound
		}
	}
	wrong := d.File == d.Root
	switch d.Kind {
	case 0:
		wrong = d.File != -1 || d.Rate != 0 || d.Burst != 0
	case api.Mirror, api.Commit:
		wrong = wrong || d.File == -1
	}
	if wrong {
		return api.ErrShape
	}
	return nil
}

// desks around all bounds.
func desks() (l []api.Desk) {
	speeds := []int{-1, 0, 1, 255, 256, 300, 999, 1000, 1001}
	for root := -1; root <= 5; root++ {
		for kind := -1; kind <= 4; kind++ {
			for file := -2; file <= 5; file++ {
				for _, rate := range speeds {
					for _, burst := range speeds {
						l = append(l, api.Desk{Root: root, Kind: kind, File: file, Rate: rate, Burst: burst})
					}
				}
			}
		}
	}
	for _, n := range far {
		l = append(l, api.Desk{Root: n, File: -1}, api.Desk{Kind: n, File: -1}, api.Desk{File: n}, api.Desk{Kind: 2, File: n})
		if n < 0 || n > api.MaxRate {
			l = append(l, api.Desk{File: -1, Rate: n}, api.Desk{Kind: 2, File: -1, Burst: n}, api.Desk{Root: n, Kind: n, File: n, Rate: n, Burst: n})
		}
	}
	return l
}

func TestC3EveryDesk(t *testing.T) {
	good := 0
	for _, d := range desks() {
		want := deskError(d)
		if err := CheckDesk(d); err != want {
			t.Fatalf("CheckDesk(%+v) = %v, not %v", d, err, want)
		}
		sector := ""
		if want == nil {
			good++
			sector = seal([]byte{'D', 'K', byte(d.Root), byte(d.Kind), byte(d.File + 1), byte(d.Rate % 256), byte(d.Rate / 256), byte(d.Burst % 256), byte(d.Burst / 256), 0, 0, 0})
			if got, err := ReadDesk(sector); got != d || err != nil {
				t.Fatalf("ReadDesk(%x) = %+v, %v, not %+v", sector, got, err, d)
			}
		}
		if s, err := Desk(d); s != sector || err != want {
			t.Fatalf("Desk(%+v) = %x, %v, not %x, %v", d, s, err, sector, want)
		}
	}
	if good == 0 {
		t.Error("no desk was good")
	}
}

func TestC3KnownDesks(t *testing.T) {
	for _, c := range []struct {
		d    api.Desk
		want error
	}{
		{api.Desk{File: -1}, nil},
		{api.Desk{Root: 4, File: -1}, nil},
		{api.Desk{}, api.ErrShape},
		{api.Desk{File: -1, Rate: 1}, api.ErrShape},
		{api.Desk{File: -1, Burst: 1}, api.ErrShape},
		{api.Desk{Kind: api.Stream, File: -1}, nil},
		{api.Desk{Kind: api.Mirror, File: -1}, api.ErrShape},
		{api.Desk{Kind: api.Commit, File: -1}, api.ErrShape},
		{api.Desk{Root: 2, Kind: api.Mirror, File: 2}, api.ErrShape},
		{api.Desk{Root: 2, Kind: api.Stream, File: 2}, api.ErrShape},
		{api.Desk{Root: 2, Kind: api.Commit, File: 2}, api.ErrShape},
		{api.Desk{Root: 2, Kind: api.Commit, File: 0, Rate: 1000, Burst: 1000}, nil},
		{api.Desk{Root: 2, Kind: api.Commit, File: 2, Rate: 1001}, api.ErrBound},
		{api.Desk{Root: 2, Kind: api.Commit, File: 2, Burst: -1}, api.ErrBound},
		{api.Desk{Root: 5, Kind: api.Mirror, File: 5}, api.ErrBound},
		{api.Desk{Kind: 4, File: -1}, api.ErrBound},
	} {
		if err := CheckDesk(c.d); err != c.want {
			t.Errorf("CheckDesk(%+v) = %v, not %v", c.d, err, c.want)
		}
	}
}

func TestC3EverySpeed(t *testing.T) {
	for n := range 1001 {
		d := api.Desk{Root: 3, Kind: api.Mirror, File: 4, Rate: n, Burst: 1000 - n}
		if got, err := ReadDesk(deskOf(t, d)); got != d || err != nil {
			t.Errorf("ReadDesk = %+v, %v, not %+v", got, err, d)
		}
	}
}

func TestC3ReadDeskOfOtherLengths(t *testing.T) {
	s := deskOf(t, api.Desk{Root: 1, Kind: api.Stream, File: -1, Rate: 300, Burst: 1000})
	for _, x := range []string{"", "D", s[:15], s[:12], s[1:], s + "\x00", s + s, strings.Repeat("\x00", 4000)} {
		noDesk(t, x, api.ErrBound)
	}
}

func TestC3ReadDeskNotSealed(t *testing.T) {
	s := deskOf(t, api.Desk{Root: 1, Kind: api.Stream, File: -1, Rate: 300, Burst: 1000})
	for bit := range 8 * len(s) {
		noDesk(t, changed(s, bit/8, s[bit/8]^1<<(bit%8)), api.ErrSum)
	}
	noDesk(t, strings.Repeat("\x00", 16), api.ErrSum)
	noDesk(t, strings.Repeat("\xff", 16), api.ErrSum)
}

// Every byte of the twelve is made every other thing, and sealed again: it is another desk, or none.
func TestC3ReadDeskOfEveryByte(t *testing.T) {
	for _, was := range []api.Desk{{Root: 2, File: -1}, {Root: 1, Kind: api.Stream, File: -1, Rate: 300, Burst: 1000}, {Root: 1, Kind: api.Commit, File: 0, Rate: 4, Burst: 8}} {
		s := deskOf(t, was)
		for at := range 12 {
			for b := range 256 {
				x := seal([]byte(changed(s, at, byte(b)))[:12])
				d := api.Desk{Root: int(x[2]), Kind: int(x[3]), File: int(x[4]) - 1, Rate: int(x[5]) + 256*int(x[6]), Burst: int(x[7]) + 256*int(x[8])}
				if x[:2] != "DK" || x[9:12] != "\x00\x00\x00" || deskError(d) != nil {
					noDesk(t, x, api.ErrShape)
				} else if got, err := ReadDesk(x); got != d || err != nil {
					t.Errorf("ReadDesk(%x) = %+v, %v, not %+v", x, got, err, d)
				}
			}
		}
	}
}

func TestC3ReadDeskOfAHead(t *testing.T) {
	noDesk(t, headOf(t, api.Head{Clusters: 3, Places: 6, Back: -1}), api.ErrShape)
	noDesk(t, seal(make([]byte, 12)), api.ErrShape)
	noDesk(t, seal([]byte("KD\x01\x02\x00\x2c\x01\xe8\x03\x00\x00\x00")), api.ErrShape)
}

// Whatever stands in a sector: it is read as what stands so, or refused.
func FuzzZ1SectorsAreReadOrRefused(f *testing.F) {
	f.Add("SY\x03\x06\x00\x00\x00\x00\x00\x00\x00\x00", 3, 6)
	f.Add("DK\x01\x02\x00\x2c\x01\xe8\x03\x00\x00\x00", 9, 40)
	f.Add("\x00\x00\x01\x00\x02\x05\x00\x00\x00\x00\x00\x00", 32, 0)
	f.Fuzz(func(t *testing.T, s string, clusters, places int) {
		l := []string{s}
		if len(s) == 12 {
			l = append(l, seal([]byte(s)))
		}
		for _, x := range l {
			if h, err := ReadHead(x); err == nil && headOf(t, h) != x {
				t.Errorf("ReadHead(%x) = %v, which stands otherwise", x, h)
			}
			if d, err := ReadDesk(x); err == nil && deskOf(t, d) != x {
				t.Errorf("ReadDesk(%x) = %v, which stands otherwise", x, d)
			}
			rows := []string{x, x, x, x}[:min(max(Rows(clusters), 0), 4)]
			h := api.Head{Clusters: clusters, Places: places, Back: -1}
			if e, err := ReadTable(h, rows); err == nil && (len(e) != clusters || !slices.Equal(rowsOf(t, e), rows)) {
				t.Errorf("ReadTable(%v, %x) = %v, which stands otherwise", h, rows, e)
			}
		}
	})
}

// Errors are bare, of package api.
func TestZ3ErrorsAreBare(t *testing.T) {
	_, a := ReadHead("")
	_, b := ReadDesk(strings.Repeat("\x00", 16))
	_, c := Row([]api.Entry{{Kind: 3}}, 0)
	for _, err := range []error{a, b, c, CheckHead(api.Head{}), CheckDesk(api.Desk{})} {
		if got := fmt.Sprintf("%T", err); got != "api.Errno" {
			t.Errorf("%v is a %s", err, got)
		}
	}
}
