package console

import (
	"encoding/hex"
	"fmt"
	"math"
	"math/rand"
	"regexp"
	"slices"
	"strings"
	"testing"

	"stackyard/api"
	"stackyard/dev"
	"stackyard/image"
	"stackyard/shape"
	"stackyard/yard"
)

// run lines, of which none is too many, over a yard that may be.
func run(t testing.TB, clusters, places int, lines ...string) []string {
	t.Helper()
	l, err := Run(clusters, places, lines)
	if err != nil {
		t.Fatalf("error %v", err)
	}
	if len(l) != len(lines) {
		t.Fatalf("%d answers to %d lines", len(l), len(lines))
	}
	return l
}

// check a session: a row a line, its answer behind "=>".
func check(t *testing.T, clusters, places int, session string) {
	t.Helper()
	var lines, want []string
	for _, row := range strings.Split(strings.TrimSpace(session), "\n") {
		line, answer, is := strings.Cut(row, " => ")
		if !is {
			t.Fatalf("no row of a session: %q", row)
		}
		lines = append(lines, line)
		want = append(want, answer)
	}
	for n, got := range run(t, clusters, places, lines...) {
		if got != want[n] {
			t.Errorf("line %d: %s => %s, not %s", n, lines[n], got, want[n])
		}
	}
}

// bytes of so many sectors, to the base 16.
func bytes(sectors int, b string) string { return strings.Repeat(b, 16*sectors) }

// TestK1Document: the session that the document has.
func TestK1Document(t *testing.T) {
	check(t, 3, 6, `
fill 1 3 65 => ok
read 0 2 => `+bytes(1, "00")+bytes(1, "41")+`
snap 1 => ok
wipe 4 4 => ok
fill 5 1 66 => ok
chain => 1 0
start 1 2 4 8 => error 4
blank 2 => ok
start 1 2 4 8 => ok
status => 1 2 1 3
step => moved
step => moved
step => still
tick 1 => ok
step => moved
status => 1 2 3 0
fill 9 1 67 => ok
pivot => error 9
status => 1 2 1 1
tick 9 => ok
step => moved
status => 1 2 3 0
pivot => ok
chain => 2
read 9 1 => `+bytes(1, "43")+`
snap 0 => ok
fill 0 1 68 => ok
flush => ok
start 3 2 0 1000 => ok
fill 2 1 69 => ok
step => moved
pivot => ok
chain => 2
fill 3 1 70 => ok
crash 0 => ok
read 0 4 => `+bytes(1, "44")+bytes(1, "41")+bytes(1, "45")+bytes(1, "41")+`
snap 1 => ok
start 2 -1 0 1000 => ok
crash 1 => ok
status => 2 -1 2 3
resume => ok
step => moved
step => moved
step => moved
chain => 1
status => 2 -1 4 0
fail 1 0 => ok
fill 0 1 71 => error 7
read 0 1 => `+bytes(1, "44")+`
start 3 1 0 0 => error 2
fly => error 11
tick 100001 => error 1
`)
}

// TestK1NewFirst: what yard.New refuses is refused, however many lines there are.
func TestK1NewFirst(t *testing.T) {
	far := []int{math.MinInt, -2, -1, 0, 1, 2, 31, 32, 33, 40, 41, 42, 1 << 32, math.MaxInt}
	for _, clusters := range far {
		for _, places := range far {
			for _, lines := range []int{0, 1, 80, 81} {
				_, want := yard.New(clusters, places)
				if lines > 80 && want == nil {
					want = api.ErrBound
				}
				l, err := Run(clusters, places, slices.Repeat([]string{"chain"}, lines))
				if err != want {
					t.Fatalf("Run(%d, %d) of %d lines: error %v, not %v", clusters, places, lines, err, want)
				}
				if err != nil && len(l) != 0 || err == nil && len(l) != lines {
					t.Fatalf("Run(%d, %d) of %d lines: %d answers, error %v", clusters, places, lines, len(l), err)
				}
			}
		}
	}
}

// TestK1Lines: from none to MaxLines there is an answer each; one more is refused, whatever they are.
func TestK1Lines(t *testing.T) {
	for n := range 81 {
		for _, got := range run(t, 1, 1, slices.Repeat([]string{"flush"}, n)...) {
			if got != "ok" {
				t.Fatalf("flush => %s", got)
			}
		}
	}
	for _, line := range []string{"flush", "", "fly", strings.Repeat("x", 201)} {
		for _, n := range []int{81, 82, 160, 1000} {
			if l, err := Run(1, 1, slices.Repeat([]string{line}, n)); err != api.ErrBound || len(l) != 0 {
				t.Errorf("%d lines: %d answers, error %v", n, len(l), err)
			}
		}
	}
}

// TestK1Read: two digits a byte of each byte that there is; - of none.
func TestK1Read(t *testing.T) {
	for from := 0; from < 256; from += 39 {
		var lines, want []string
		for b := from; b < min(from+39, 256); b++ {
			lines = append(lines, fmt.Sprint("fill 1 1 ", b), "read 1 1")
			want = append(want, "ok", bytes(1, fmt.Sprintf("%02x", b)))
		}
		if got := run(t, 1, 1, lines...); !slices.Equal(got, want) {
			t.Errorf("%q => %q, not %q", lines, got, want)
		}
	}
	check(t, 2, 2, `
read 0 8 => `+bytes(8, "00")+`
fill 2 4 171 => ok
read 0 0 => -
read 3 0 => -
read 8 0 => -
read 9 0 => error 1
read 999999 0 => error 1
read -1 0 => error 1
read 0 -1 => error 1
read 0 9 => error 1
read 1 8 => error 1
read 7 1 => `+bytes(1, "00")+`
read 1 2 => `+bytes(1, "00")+bytes(1, "ab")+`
read 0 8 => `+bytes(2, "00")+bytes(4, "ab")+bytes(2, "00")+`
`)
	check(t, 32, 32, `
fill 0 128 254 => ok
read 0 128 => `+bytes(128, "fe")+`
`)
}

// TestK1Fill: N from 0 to MaxClusters times Per, BYTE from 0 to 255, and then what Write says.
func TestK1Fill(t *testing.T) {
	check(t, 32, 40, `
fill 0 128 1 => ok
fill 0 129 1 => error 1
fill 0 999999 1 => error 1
fill 0 -1 1 => error 1
fill 0 1 256 => error 1
fill 0 1 -1 => error 1
fill 0 1 999999 => error 1
fill 0 0 256 => error 1
fill 0 0 -1 => error 1
fill 0 0 255 => ok
fill 0 0 0 => ok
fill 128 0 7 => ok
fill 129 0 7 => error 1
fill -1 0 7 => error 1
fill -1 1 7 => error 1
fill 1 128 7 => error 1
fill 127 2 7 => error 1
read 0 128 => `+bytes(128, "01")+`
fill 127 1 255 => ok
fill 0 1 0 => ok
read 0 128 => `+bytes(1, "00")+bytes(126, "01")+bytes(1, "ff")+`
`)
}

// TestK1Full: a file without room, and one with too little of it: what was written up to there stands.
func TestK1Full(t *testing.T) {
	check(t, 3, 0, `
fill 0 1 9 => error 6
fill 0 0 9 => ok
wipe 0 12 => ok
wipe 0 1 => ok
read 0 1 => `+bytes(1, "00")+`
`)
	check(t, 3, 1, `
fill 3 3 9 => error 6
read 3 2 => `+bytes(1, "09")+bytes(1, "00")+`
wipe 0 4 => ok
fill 4 1 8 => error 6
flush => ok
fill 4 1 8 => ok
read 3 2 => `+bytes(1, "00")+bytes(1, "08")+`
`)
}

// TestK1Wipe: noughts, of whole clusters and of parts.
func TestK1Wipe(t *testing.T) {
	check(t, 2, 2, `
fill 0 8 5 => ok
wipe 1 2 => ok
read 0 8 => `+bytes(1, "05")+bytes(2, "00")+bytes(5, "05")+`
wipe 3 5 => ok
read 0 8 => `+bytes(1, "05")+bytes(7, "00")+`
wipe 8 0 => ok
wipe 9 0 => error 1
wipe 8 1 => error 1
wipe -1 1 => error 1
wipe 0 -1 => error 1
wipe 0 9 => error 1
`)
}

// TestK1Files: images that are made above the root, or apart from it, and the chain of them.
func TestK1Files(t *testing.T) {
	check(t, 1, 1, `
chain => 0
snap 0 => error 5
snap -1 => error 1
snap 5 => error 1
snap 999999 => error 1
blank 0 => error 5
blank -1 => error 1
blank 5 => error 1
blank 4 => ok
blank 4 => ok
snap 3 => ok
chain => 3 0
blank 3 => error 5
snap 4 => ok
snap 1 => ok
chain => 1 4 3 0
snap 2 => error 6
snap 1 => error 6
snap 9 => error 6
blank 2 => ok
start 1 2 0 4 => ok
snap 2 => error 8
blank 2 => error 5
cancel => ok
blank 2 => ok
`)
}

// TestK1Start: what Start says of each of the four numbers, in their order.
func TestK1Start(t *testing.T) {
	check(t, 1, 2, `
snap 1 => ok
blank 2 => ok
start 0 -1 0 0 => error 1
start -1 2 0 0 => error 1
start 4 2 0 0 => error 1
start 1 5 0 0 => error 1
start 1 2 1001 0 => error 1
start 1 2 0 1001 => error 1
start 1 2 -1 0 => error 1
start 1 2 0 -1 => error 1
start 1 -1 0 0 => error 2
start 1 1 0 0 => error 2
start 1 0 0 0 => error 2
start 1 3 0 0 => error 4
start 3 -1 0 0 => error 2
start 3 2 0 0 => error 4
start 2 2 0 0 => error 4
status => 0 -1 0 0
start 1 2 1000 1000 => ok
status => 1 2 1 1
start 1 2 0 0 => error 8
start 0 0 0 0 => error 8
`)
}

// TestK1Rate: RATE and BURST stand in their order.
func TestK1Rate(t *testing.T) {
	check(t, 2, 2, `
blank 2 => ok
start 1 2 1 7 => ok
step => moved
step => still
tick 1 => ok
step => moved
fill 0 8 3 => ok
tick 3 => ok
step => still
tick 1 => ok
step => moved
step => still
tick 99999 => ok
step => moved
fill 0 1 4 => ok
step => still
status => 1 2 1 1
`)
}

// TestK1Jobs: a job paused, resumed, cancelled, and one whose pivot fails.
func TestK1Jobs(t *testing.T) {
	check(t, 1, 2, `
status => 0 -1 0 0
step => error 4
pause => error 4
resume => error 4
cancel => error 4
pivot => error 4
tick 0 => ok
tick 100000 => ok
tick 100001 => error 1
tick 999999 => error 1
tick -1 => error 1
fill 0 1 18 => ok
blank 2 => ok
start 1 2 0 1000 => ok
resume => error 9
pause => ok
status => 1 2 2 1
pause => error 9
step => error 9
pivot => error 9
resume => ok
status => 1 2 1 1
pivot => error 9
step => moved
step => still
status => 1 2 3 0
pause => ok
status => 1 2 2 0
resume => ok
status => 1 2 3 0
fail -1 0 => ok
pivot => error 7
chain => 0
status => 1 2 3 0
pivot => ok
status => 1 2 4 0
chain => 2
read 0 1 => `+bytes(1, "12")+`
blank 0 => ok
start 1 0 0 8 => ok
fail -1 0 => ok
cancel => error 7
status => 1 0 1 1
cancel => ok
status => 1 0 5 1
chain => 2
cancel => error 4
`)
}

// TestK1Stream: its last step concludes it; there is no pivot of it.
func TestK1Stream(t *testing.T) {
	check(t, 2, 2, `
fill 0 1 1 => ok
snap 1 => ok
fill 4 1 2 => ok
snap 2 => ok
start 2 0 0 4 => ok
pivot => error 9
status => 2 0 1 1
step => moved
status => 2 0 4 0
chain => 2 0
start 2 0 0 0 => ok
status => 2 0 3 0
step => moved
status => 2 0 4 0
step => error 4
`)
}

// TestK1Fail: the write behind so many of a file's device, or of the desk's, fails.
func TestK1Fail(t *testing.T) {
	check(t, 1, 2, `
fail -1 -1 => error 1
fail 0 -1 => error 1
fail 5 0 => error 1
fail 999999 0 => error 1
fill 0 4 1 => ok
fail 0 2 => ok
fill 0 4 2 => error 7
read 0 4 => `+bytes(2, "02")+bytes(2, "01")+`
fill 0 4 3 => ok
read 0 4 => `+bytes(4, "03")+`
fail 4 0 => ok
fail 0 999999 => ok
blank 4 => error 7
start 1 4 0 0 => error 4
blank 4 => ok
start 1 4 0 4 => ok
fail 4 3 => ok
step => error 7
status => 1 4 5 1
`)
}

// TestK1Crash: crash 1 keeps all that is pending, of each file; any other number nothing of it.
func TestK1Crash(t *testing.T) {
	for _, n := range []string{"0", "1", "2", "-1", "10", "11", "100000", "999999"} {
		root := "0a"
		if n == "1" {
			root = "0b"
		}
		check(t, 1, 2, `
fill 0 4 10 => ok
blank 2 => ok
start 1 2 0 8 => ok
flush => ok
fill 0 1 11 => ok
fill 1 2 12 => ok
fill 1 2 11 => ok
fill 3 1 11 => ok
step => moved
status => 1 2 3 0
crash `+n+` => ok
status => 1 2 2 1
chain => 0
read 0 4 => `+bytes(4, root)+`
crash `+n+` => ok
read 0 4 => `+bytes(4, root)+`
resume => ok
step => moved
pivot => ok
chain => 2
read 0 4 => `+bytes(4, root)+`
`)
	}
}

// TestK1CrashEachFile: what is pending is kept, whichever file the root is.
func TestK1CrashEachFile(t *testing.T) {
	for file := 1; file < 5; file++ {
		first := fmt.Sprintf("blank %d => ok\nstart 1 %d 0 1000 => ok\nstep => moved\nstep => moved\npivot => ok\n", file, file)
		check(t, 2, 2, first+`
fill 0 8 2 => ok
flush => ok
fill 1 2 3 => ok
fill 6 1 4 => ok
crash 0 => ok
read 0 8 => `[1:]+bytes(8, "02")+`
fill 1 2 3 => ok
fill 6 1 4 => ok
crash 1 => ok
read 0 8 => `+bytes(1, "02")+bytes(2, "03")+bytes(3, "02")+bytes(1, "04")+bytes(1, "02")+`
chain => `+fmt.Sprint(file)+`
`)
	}
}

// TestK1CrashJobsFile: it is kept of a file that is not in the chain, too: whether the mirror's one place is free tells it.
func TestK1CrashJobsFile(t *testing.T) {
	for n, answer := range []string{"error 6", "moved"} {
		check(t, 2, 1, `
fill 0 1 9 => ok
blank 2 => ok
start 1 2 0 1000 => ok
step => moved
step => moved
fail -1 0 => ok
pivot => error 7
wipe 0 4 => ok
step => moved
flush => ok
fill 4 1 8 => ok
flush => ok
crash `+fmt.Sprint(n)+` => ok
status => 1 2 2 2
resume => ok
step => moved
step => `+answer+`
`)
	}
}

// TestK1CrashAhead: a Fail that was ahead is not any more; the yard that is found is the one from then on.
func TestK1CrashAhead(t *testing.T) {
	check(t, 1, 2, `
fail 0 0 => ok
fail -1 0 => ok
crash 0 => ok
fill 0 1 1 => ok
snap 1 => ok
chain => 1 0
crash 0 => ok
chain => 1 0
fill 0 1 2 => ok
flush => ok
crash 0 => ok
read 0 1 => `+bytes(1, "02")+`
`)
}

// over devices: a session of a yard on them.
func over(t *testing.T, files []*dev.Dev, top *dev.Dev) *session {
	t.Helper()
	y, err := yard.Open(files, top)
	if err != nil {
		t.Fatal(err)
	}
	return &session{yard: y, numbers: commands()}
}

// images of one cluster, on MaxFiles devices: the Back of each.
func images(t *testing.T, backs ...int) []*dev.Dev {
	t.Helper()
	var l []*dev.Dev
	for _, back := range backs {
		h := api.Head{Clusters: 1, Places: 1, Back: back}
		d, err := dev.New(image.Need(h))
		if err == nil {
			_, err = image.Create(d, h)
		}
		if err != nil {
			t.Fatal(err)
		}
		l = append(l, d)
	}
	return l
}

// pend: a sector stands on a device, but is not flushed.
func pend(t *testing.T, d *dev.Dev, sector string, err error) {
	t.Helper()
	if err == nil {
		err = d.Write(0, sector)
	}
	if err != nil {
		t.Fatal(err)
	}
}

// says: a line is answered so.
func (s *session) says(t *testing.T, line, want string) {
	t.Helper()
	if got := s.answer(line); got != want {
		t.Errorf("%s => %s, not %s", line, got, want)
	}
}

// TestK1CrashRefused: with an error the yard stays: what is pending is so still, and a Fail is ahead. No session comes there by itself: it takes a desk, or a head, that is pending.
func TestK1CrashRefused(t *testing.T) {
	top, err := dev.New(1)
	if err != nil {
		t.Fatal(err)
	}
	desk, err := shape.Desk(api.Desk{File: -1})
	pend(t, top, desk, err)
	s := over(t, images(t, -1, -1, -1, -1, -1), top)
	s.says(t, "fill 0 1 7", "ok")
	for _, line := range []string{"crash 0", "crash 1", "crash -1"} {
		s.says(t, line, "error 3")
		s.says(t, "read 0 1", bytes(1, "07"))
	}
	s.says(t, "fail 0 0", "ok")
	s.says(t, "crash 1", "error 3")
	s.says(t, "fill 0 1 8", "error 7")
	s.says(t, "snap 1", "ok")
	s.says(t, "crash 0", "ok")
	s.says(t, "chain", "1 0")
}

// TestK2Chain: error 10 of a chain that goes round, if a head that is pending is lost.
func TestK2Chain(t *testing.T) {
	desk, err := shape.Desk(api.Desk{File: -1})
	if err != nil {
		t.Fatal(err)
	}
	top, err := dev.Of(desk)
	if err != nil {
		t.Fatal(err)
	}
	files := images(t, 1, 0, -1, -1, -1)
	head, err := shape.Head(api.Head{Clusters: 1, Places: 1, Back: -1})
	pend(t, files[0], head, err)
	s := over(t, files, top)
	s.says(t, "crash 0", "error 10")
	s.says(t, "chain", "0")
	s.says(t, "crash 1", "ok")
	s.says(t, "chain", "0")
	s.says(t, "crash 0", "ok")
}

// kinds of commands: their words, and how many numbers each has.
var kinds = []struct {
	word  string
	count int
}{
	{"read", 2}, {"fill", 3}, {"wipe", 2}, {"flush", 0}, {"blank", 1}, {"snap", 1}, {"chain", 0}, {"start", 4}, {"step", 0},
	{"pause", 0}, {"resume", 0}, {"cancel", 0}, {"pivot", 0}, {"tick", 1}, {"status", 0}, {"fail", 2}, {"crash", 1},
}

// line of a command with these words behind it.
func line(word string, behind ...string) string {
	return strings.Join(append([]string{word}, behind...), " ")
}

// first answer of a session to a line.
func first(t testing.TB, line string) string {
	t.Helper()
	return run(t, 1, 1, line)[0]
}

// TestK2Counts: each command has just as many numbers as it should have.
func TestK2Counts(t *testing.T) {
	for _, k := range kinds {
		for n := range 7 {
			l := line(k.word, slices.Repeat([]string{"1"}, n)...)
			if got := first(t, l); (got == "error 11") != (n != k.count) {
				t.Errorf("%q => %s", l, got)
			}
		}
	}
}

// TestK1Numbers: what is a number, and what is none, in each place of each command.
func TestK1Numbers(t *testing.T) {
	good := []string{"0", "1", "-1", "9", "10", "99", "100000", "123456", "999999"}
	bad := []string{
		"", "00", "01", "000001", "1000000", "0000000", "9999999", "99999999999999999999", "-0", "-2", "-10", "-01", "-", "--1", "+1", "+0", "+", "1-", "1+1",
		"a", "0x1", "1a", "a1", "1.", ".5", "1.0", "1e3", "1_0", "_1", "0b1", "0o1", "0_1", "1,0", "'1'", "\"1\"", "1\n", "\n1", "1\t", "\t1", "1\x00", "\x001", "1\r", "\v",
		"١", "１", "一", "½", "−1", "\u00a01", "1\u00a0", "\xff", "\x801", "inf", "nan", "true",
	}
	for _, k := range kinds {
		for at := range k.count {
			words := slices.Repeat([]string{"1"}, k.count)
			for _, w := range good {
				words[at] = w
				if l := line(k.word, words...); first(t, l) == "error 11" {
					t.Errorf("%q is a line", l)
				}
			}
			for _, w := range bad {
				words[at] = w
				if l := line(k.word, words...); first(t, l) != "error 11" {
					t.Errorf("%q is no line", l)
				}
			}
		}
	}
}

// TestK1Blanks: there is one between two words, and none else.
func TestK1Blanks(t *testing.T) {
	for _, k := range kinds {
		good := line(k.word, slices.Repeat([]string{"1"}, k.count)...)
		for at := range len(good) + 1 {
			for _, more := range []string{" ", "  ", "\t", "\n", "\u00a0", "\x00"} {
				if l := good[:at] + more + good[at:]; first(t, l) != "error 11" {
					t.Errorf("%q is no line", l)
				}
			}
			if at < len(good) && good[at] == ' ' {
				for _, other := range []string{"", "\t", "\n", "  ", " \t", ",", "_", "\u00a0", "\u3000"} {
					if l := good[:at] + other + good[at+1:]; first(t, l) != "error 11" {
						t.Errorf("%q is no line", l)
					}
				}
			}
		}
	}
}

// TestK2Words: a command's word is spelt just so.
func TestK2Words(t *testing.T) {
	other := []string{"", "fly", "open", "new", "write", "devs", "sectors", "concluded", "moved", "still", "ok", "error", "error 11", "-", "-1", "0", "1", "#", "help", "quit", "\x00", "\xff\xfe"}
	for _, k := range kinds {
		other = append(other, strings.ToUpper(k.word), strings.ToUpper(k.word[:1])+k.word[1:], k.word[1:], k.word[:len(k.word)-1], k.word+"s", k.word+k.word, "x"+k.word, k.word+"1", k.word+";")
	}
	for _, w := range other {
		for n := range 5 {
			if l := line(w, slices.Repeat([]string{"1"}, n)...); first(t, l) != "error 11" {
				t.Errorf("%q is no line", l)
			}
		}
	}
}

// TestK2Long: lines around MaxLine bytes, and far beyond, whatever stands in them.
func TestK2Long(t *testing.T) {
	for _, n := range []int{199, 200, 201, 202, 1000, 1 << 20} {
		for _, l := range []string{strings.Repeat("x", n), strings.Repeat(" ", n), "step" + strings.Repeat(" ", n-4), strings.Repeat(" ", n-4) + "step", "tick " + strings.Repeat("0", n-6) + "1", "tick 1" + strings.Repeat(" 1", n/2-3), strings.Repeat("\x00", n)} {
			if got := first(t, l); got != "error 11" {
				t.Errorf("%d bytes: %s", len(l), got)
			}
		}
	}
}

// TestK2Stays: a line that is none does nothing.
func TestK2Stays(t *testing.T) {
	check(t, 2, 3, `
fill 0 3 5 => ok
blank 2 => ok
start 1 2 0 4 => ok
 => error 11
fill 0 3 06 => error 11
fill 0 3 6  => error 11
step 1 => error 11
tick 1  => error 11
crash => error 11
crash 1 1 => error 11
wipe 0 => error 11
cancel now => error 11
status => 1 2 1 2
read 0 4 => `+bytes(3, "05")+bytes(1, "00")+`
step => moved
step => still
`)
}

// errorOf what was answered, by another way than the program's.
func errorOf(err error, told string) string {
	for e := api.ErrBound; e <= api.ErrText; e++ {
		if err == error(e) {
			return fmt.Sprintf("error %d", int(e))
		}
	}
	if err != nil {
		return "no error of package api: " + err.Error()
	}
	return told
}

// guide: a yard that is asked the same as a session is, by its own calls.
type guide struct{ y *yard.Yard }

// line's pattern, by K1's words.
var pattern = regexp.MustCompile(`\A([a-z]+)((?: (?:0|[1-9][0-9]{0,5}|-1))*)\z`)

// answer that the words of K1 and K2 ask for.
func (g *guide) answer(line string) string {
	m := pattern.FindStringSubmatch(line)
	if m == nil || len(line) > 200 {
		return "error 11"
	}
	var n []int
	for _, w := range strings.Fields(m[2]) {
		var i int
		fmt.Sscan(w, &i)
		n = append(n, i)
	}
	switch fmt.Sprint(m[1], " ", len(n)) {
	case "read 2":
		s, err := g.y.Read(n[0], n[1])
		if err == nil && s == "" {
			return "-"
		}
		return errorOf(err, hex.EncodeToString([]byte(s)))
	case "fill 3":
		if n[1] < 0 || n[1] > 128 || n[2] < 0 || n[2] > 255 {
			return "error 1"
		}
		return errorOf(g.y.Write(n[0], strings.Repeat(string([]byte{byte(n[2])}), 16*n[1])), "ok")
	case "wipe 2":
		return errorOf(g.y.Wipe(n[0], n[1]), "ok")
	case "flush 0":
		g.y.Flush()
		return "ok"
	case "blank 1":
		return errorOf(g.y.Blank(n[0]), "ok")
	case "snap 1":
		return errorOf(g.y.Snap(n[0]), "ok")
	case "chain 0":
		return strings.Trim(fmt.Sprint(g.y.Chain()), "[]")
	}
	return g.jobs(m[1], n)
}

// jobs' lines, and those of devices.
func (g *guide) jobs(word string, n []int) string {
	switch fmt.Sprint(word, " ", len(n)) {
	case "start 4":
		return errorOf(g.y.Start(n[0], n[1], n[2], n[3]), "ok")
	case "step 0":
		did, err := g.y.Step()
		return errorOf(err, map[bool]string{true: "moved", false: "still"}[did])
	case "pause 0":
		return errorOf(g.y.Pause(true), "ok")
	case "resume 0":
		return errorOf(g.y.Pause(false), "ok")
	case "cancel 0":
		return errorOf(g.y.Cancel(), "ok")
	case "pivot 0":
		return errorOf(g.y.Pivot(), "ok")
	case "tick 1":
		return errorOf(g.y.Tick(n[0]), "ok")
	case "status 0":
		return strings.Trim(fmt.Sprint(g.y.Status()), "{}")
	case "fail 2":
		return errorOf(g.y.Fail(n[0], n[1]), "ok")
	case "crash 1":
		var keep [][]bool
		for range 5 {
			keep = append(keep, slices.Repeat([]bool{n[0] == 1}, 1000))
		}
		found, err := g.y.Crash(keep)
		if err == nil {
			g.y = found
		}
		return errorOf(err, "ok")
	}
	return "error 11"
}

// held: a session's answers are the guide's.
func held(t *testing.T, clusters, places int, lines []string) {
	t.Helper()
	y, err := yard.New(clusters, places)
	if err != nil {
		t.Fatal(err)
	}
	g := &guide{y}
	for n, got := range run(t, clusters, places, lines...) {
		if want := g.answer(lines[n]); got != want {
			t.Fatalf("%d clusters, %d places: %q: line %d: %q => %s, not %s", clusters, places, lines[:n+1], n, lines[n], got, want)
		}
	}
}

// drawn line, of a yard of so many sectors: mostly one that has something to do.
func drawn(r *rand.Rand, sectors int) string {
	file := func() int { return r.Intn(7) - 1 }
	switch r.Intn(16) {
	case 0, 1:
		return fmt.Sprint("fill ", r.Intn(sectors+2)-1, " ", r.Intn(9), " ", r.Intn(258)-1)
	case 2:
		return fmt.Sprint("wipe ", r.Intn(sectors+2)-1, " ", r.Intn(9))
	case 3:
		return fmt.Sprint("read ", r.Intn(sectors), " ", r.Intn(sectors+1))
	case 4:
		return fmt.Sprint([]string{"snap ", "blank "}[r.Intn(2)], file())
	case 5, 6:
		return fmt.Sprint("start ", 1+r.Intn(3), " ", file(), " ", r.Intn(9), " ", []int{1000, r.Intn(20)}[r.Intn(2)])
	case 7:
		return []string{"pause", "resume", "cancel", "pivot", "flush"}[r.Intn(5)]
	case 8:
		return fmt.Sprint("tick ", r.Intn(4))
	case 9:
		return fmt.Sprint("crash ", r.Intn(4)-1)
	case 10:
		return fmt.Sprint("fail ", file(), " ", r.Intn(12))
	case 11:
		return "pivot"
	case 12:
		return []string{"chain", "status"}[r.Intn(2)]
	case 13:
		k := kinds[r.Intn(len(kinds))]
		l := k.word
		for range k.count {
			l += fmt.Sprint(" ", []int{-1, 0, 1, 2, 255, 999999}[r.Intn(6)])
		}
		return l
	}
	return "step"
}

// TestK1Sessions: sessions as long as they may be, held line by line against a yard that is called itself.
func TestK1Sessions(t *testing.T) {
	r := rand.New(rand.NewSource(1))
	for range 1500 {
		clusters := 1 + r.Intn(5)
		if r.Intn(10) == 0 {
			clusters = 1 + r.Intn(32)
		}
		lines := []string{"snap 1", "blank 3"}
		for len(lines) < 79 {
			lines = append(lines, drawn(r, 4*clusters))
		}
		lines = append(lines, fmt.Sprint("read 0 ", 4*clusters))
		held(t, clusters, r.Intn(min(clusters+4, 41)), lines)
	}
}

// TestK2Sessions: lines of which a byte or two are others.
func TestK2Sessions(t *testing.T) {
	r := rand.New(rand.NewSource(2))
	const letters = " 0123456789-+abcdefghijklmnopqrstuvwxyz\x00\t\n\xff"
	for range 1500 {
		var lines []string
		for len(lines) < 80 {
			l := []byte(drawn(r, 8))
			for range r.Intn(3) {
				at := r.Intn(len(l) + 1)
				switch b := letters[r.Intn(len(letters))]; {
				case at == len(l) || r.Intn(3) == 0:
					l = slices.Insert(l, at, b)
				case r.Intn(2) == 0:
					l[at] = b
				default:
					l = slices.Delete(l, at, at+1)
				}
			}
			lines = append(lines, string(l))
		}
		held(t, 2, r.Intn(4), lines)
	}
}

// TestZ1Lines: whatever stands in lines, each is answered in one of the ways that there are.
func TestZ1Lines(t *testing.T) {
	form := regexp.MustCompile(`\A(ok|moved|still|-|error ([1-9]|1[01])|([0-9a-f]{32})+|-?[0-9]+( -?[0-9]+)*)\z`)
	r := rand.New(rand.NewSource(3))
	for range 300 {
		var lines []string
		for len(lines) < 80 {
			l := make([]byte, r.Intn(220))
			r.Read(l)
			if r.Intn(2) == 0 {
				l = []byte(drawn(r, 12) + string(l[:min(len(l), r.Intn(3))]))
			}
			lines = append(lines, string(l))
		}
		for n, got := range run(t, 3, 4, lines...) {
			if !form.MatchString(got) {
				t.Fatalf("%q => %q", lines[n], got)
			}
		}
	}
}

// TestZ2Apart: lines are neither written into nor read beyond; what comes out is fresh; a session hangs on its arguments alone.
func TestZ2Apart(t *testing.T) {
	lines := []string{"fill 0 1 3", "read 0 1", "chain", "fly", "crash 0", "status", "behind", "behind"}
	was := slices.Clone(lines)
	one := run(t, 1, 1, lines[:6]...)
	want := slices.Clone(one)
	two := run(t, 1, 1, lines[:6]...)
	if !slices.Equal(lines, was) {
		t.Errorf("lines are %q, were %q", lines, was)
	}
	for n := range lines {
		lines[n] = "other"
	}
	for n := range one {
		one[n] = "mine"
	}
	if !slices.Equal(two, want) {
		t.Errorf("%q, not %q", two, want)
	}
	if three := run(t, 1, 1, was[:6]...); !slices.Equal(three, want) {
		t.Errorf("%q, not %q", three, want)
	}
}
