package sum

import (
	"hash/crc32"
	"math"
	"strings"
	"testing"
)

// spelt is promise A1 word by word, in numbers wide enough that nothing wraps round.
func spelt(t string) uint32 {
	const all = 1<<32 - 1
	s := uint64(all)
	for _, b := range []byte(t) {
		s ^= uint64(b)
		for range 8 {
			half := s / 2
			if s%2 != 0 {
				half ^= 3988292384
			}
			s = half
		}
	}
	return uint32(s ^ all)
}

// texts that are short, long, of all bytes, and no runes.
func texts() []string {
	every := make([]byte, 256)
	for i := range every {
		every[i] = byte(i)
	}
	l := []string{"", "\x00", "\xff", "a", "\x00\x00\x00\x00", "\xff\xff\xff\xff", "123456789", "wörter", "\xc3", string(every), strings.Repeat("yard", 1000)}
	for _, b := range every {
		l = append(l, string([]byte{b}), string([]byte{b, 0, b ^ 255}))
	}
	return l
}

func TestA1KnownSums(t *testing.T) {
	for _, c := range []struct {
		in   string
		want uint32
	}{
		{"123456789", 3421780262},
		{"", 0},
		{"\x00", 3523407757},
		{"\xff\xff\xff\xff", math.MaxUint32},
		{"SY\x03\x06\x00\x00\x00\x00\x00\x00\x00\x00", 0xabee6fbb},
		{"DK\x01\x02\x00\x2c\x01\xe8\x03\x00\x00\x00", 0xb5bd344e},
	} {
		if got := Of(c.in); got != c.want {
			t.Errorf("Of(%q) = %d, not %d", c.in, got, c.want)
		}
	}
}

func TestA1SumOfEachText(t *testing.T) {
	for _, x := range texts() {
		if got, want := Of(x), spelt(x); got != want {
			t.Errorf("Of(%q) = %d, not %d", x, got, want)
		}
		if got, want := Of(x), crc32.ChecksumIEEE([]byte(x)); got != want {
			t.Errorf("Of(%q) = %d, the library has %d", x, got, want)
		}
	}
}

func TestA1AnyNumberOfTexts(t *testing.T) {
	if got := Of(); got != 0 {
		t.Errorf("Of() = %d", got)
	}
	var none []string
	if got := Of(none...); got != 0 {
		t.Errorf("Of of a nil list = %d", got)
	}
	if got := Of("", "", ""); got != 0 {
		t.Errorf("Of of empty texts = %d", got)
	}
	want := Of("123456789")
	for _, l := range [][]string{{"1234", "56789"}, {"", "123456789"}, {"123456789", ""}, {"1", "2", "3", "", "456", "78", "9"}} {
		if got := Of(l...); got != want {
			t.Errorf("Of(%q) = %d, not %d", l, got, want)
		}
	}
	if Of("ab", "c") == Of("c", "ab") {
		t.Error("the order of texts makes no difference")
	}
}

func TestA1ListStaysAsItIs(t *testing.T) {
	l := []string{"one", "two", "three", "behind"}
	want := Of("one", "two")
	if got := Of(l[:2]...); got != want {
		t.Errorf("what stands behind a list is read: %d, not %d", got, want)
	}
	if strings.Join(l, " ") != "one two three behind" {
		t.Errorf("the list was written into: %q", l)
	}
}

func TestA1MoreGoesOn(t *testing.T) {
	const whole = "the remainder of bytes\x00\xff"
	for i := range len(whole) + 1 {
		if got, want := More(Of(whole[:i]), whole[i:]), spelt(whole); got != want {
			t.Errorf("More behind %q = %d, not %d", whole[:i], got, want)
		}
	}
}

func TestA1MoreOfAnySum(t *testing.T) {
	for _, s := range []uint32{0, 1, 2, 1 << 31, 1<<31 - 1, 3988292384, math.MaxUint32 - 1, math.MaxUint32} {
		if got := More(s, ""); got != s {
			t.Errorf("More(%d, nothing) = %d", s, got)
		}
		for _, x := range texts() {
			if got, want := More(s, x), crc32.Update(s, crc32.IEEETable, []byte(x)); got != want {
				t.Errorf("More(%d, %q) = %d, not %d", s, x, got, want)
			}
		}
	}
}

func TestA1BytesLowestFirst(t *testing.T) {
	for s, want := range map[uint32]string{
		0:              "\x00\x00\x00\x00",
		1:              "\x01\x00\x00\x00",
		0x04030201:     "\x01\x02\x03\x04",
		0x80:           "\x80\x00\x00\x00",
		0x8000:         "\x00\x80\x00\x00",
		0x800000:       "\x00\x00\x80\x00",
		1 << 31:        "\x00\x00\x00\x80",
		0xfffefdfc:     "\xfc\xfd\xfe\xff",
		math.MaxUint32: "\xff\xff\xff\xff",
		3421780262:     "\x26\x39\xf4\xcb",
	} {
		if got := Bytes(s); got != want {
			t.Errorf("Bytes(%d) = %q, not %q", s, got, want)
		}
	}
}
