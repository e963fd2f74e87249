package bucket

import (
	"math"
	"testing"

	"stackyard/api"
)

// far: numbers that no call takes.
func far() []int {
	return []int{math.MinInt, math.MinInt + 1, -1 << 32, -1000, -2, -1, api.MaxTicks + 1, api.MaxTicks + 2, 1 << 31, 1 << 32, math.MaxInt - 1, math.MaxInt}
}

// made: a bucket that must be made, and its level is its burst.
func made(t *testing.T, rate, burst int) *Bucket {
	t.Helper()
	b, err := New(rate, burst)
	if err != nil || b == nil {
		t.Fatalf("New(%d, %d) = %v, %v", rate, burst, b, err)
	}
	level(t, b, burst)
	return b
}

func level(t *testing.T, b *Bucket, want int) {
	t.Helper()
	if b.Level() != want {
		t.Fatalf("Level() = %d, not %d", b.Level(), want)
	}
}

func tick(t *testing.T, b *Bucket, n, want int) {
	t.Helper()
	if err := b.Tick(n); err != nil {
		t.Fatalf("Tick(%d): %v", n, err)
	}
	level(t, b, want)
}

func take(t *testing.T, b *Bucket, n int, ok bool, want int) {
	t.Helper()
	if got := b.Take(n); got != ok {
		t.Fatalf("Take(%d) = %v", n, got)
	}
	level(t, b, want)
}

func TestF1NewIsFull(t *testing.T) {
	for _, rate := range []int{0, 1, 2, 500, api.MaxRate - 1, api.MaxRate} {
		for _, burst := range []int{0, 1, 2, 500, api.MaxRate - 1, api.MaxRate} {
			made(t, rate, burst)
		}
	}
}

func TestF1NewOutOfBounds(t *testing.T) {
	bad := append(far(), api.MaxRate+1, api.MaxRate+2, api.MaxTicks)
	for _, x := range bad {
		for _, y := range append(bad, 0, 1, 7, api.MaxRate) {
			for _, c := range [][2]int{{x, y}, {y, x}} {
				if b, err := New(c[0], c[1]); b != nil || err != api.ErrBound {
					t.Errorf("New(%d, %d) = %v, %v", c[0], c[1], b, err)
				}
			}
		}
	}
}

func TestF1TickGivesRateUpToBurst(t *testing.T) {
	b := made(t, 3, 20)
	tick(t, b, 1, 20)
	take(t, b, 20, true, 0)
	tick(t, b, 0, 0)
	tick(t, b, 1, 3)
	tick(t, b, 2, 9)
	tick(t, b, 3, 18)
	tick(t, b, 1, 20)
	take(t, b, 2, true, 18)
	tick(t, b, 0, 18)
	tick(t, b, api.MaxTicks, 20)
}

func TestF1TickAtTheEdges(t *testing.T) {
	b := made(t, 0, api.MaxRate)
	take(t, b, 1, true, 999)
	tick(t, b, api.MaxTicks, 999)
	b = made(t, api.MaxRate, api.MaxRate)
	take(t, b, api.MaxRate, true, 0)
	tick(t, b, 1, api.MaxRate)
	take(t, b, 400, true, 600)
	for range 50 {
		tick(t, b, api.MaxTicks, api.MaxRate)
	}
	b = made(t, 1, api.MaxRate)
	take(t, b, api.MaxRate, true, 0)
	tick(t, b, api.MaxRate-1, api.MaxRate-1)
	b = made(t, api.MaxRate, 0)
	tick(t, b, api.MaxTicks, 0)
	take(t, b, 1, false, 0)
	b = made(t, api.MaxRate, 1)
	take(t, b, 1, true, 0)
	tick(t, b, 1, 1)
}

func TestF1TickOutOfBoundsChangesNothing(t *testing.T) {
	for _, rate := range []int{0, 1, api.MaxRate} {
		b := made(t, rate, 100)
		take(t, b, 90, true, 10)
		for _, n := range far() {
			if err := b.Tick(n); err != api.ErrBound {
				t.Errorf("Tick(%d): %v", n, err)
			}
			level(t, b, 10)
		}
	}
}

func TestF1Take(t *testing.T) {
	b := made(t, 1, 8)
	take(t, b, 9, false, 8)
	take(t, b, 0, true, 8)
	take(t, b, 3, true, 5)
	take(t, b, 6, false, 5)
	take(t, b, 5, true, 0)
	take(t, b, 0, true, 0)
	take(t, b, 1, false, 0)
	take(t, b, -1, false, 0)
}

func TestF1TakeOfWrongNumbersChangesNothing(t *testing.T) {
	for _, burst := range []int{0, 1, 7, api.MaxRate} {
		b := made(t, 5, burst)
		for _, n := range append(far(), burst+1, burst+2, api.MaxRate+1) {
			take(t, b, n, false, burst)
		}
	}
}

// play: bytes are calls on a bucket, held against a count that goes tick by tick.
func play(t *testing.T, rate, burst int, calls []byte) {
	b, err := New(rate, burst)
	if rate < 0 || rate > 1000 || burst < 0 || burst > 1000 {
		if b != nil || err != api.ErrBound {
			t.Fatalf("New(%d, %d) = %v, %v", rate, burst, b, err)
		}
		return
	}
	there := burst
	for k := 0; k+1 < len(calls) && k < 2000; k += 2 {
		n := int(calls[k+1]) - 3
		if calls[k]%2 == 0 {
			err := b.Tick(n)
			if (err != nil) != (n < 0) {
				t.Fatalf("Tick(%d): %v", n, err)
			}
			for range max(n, 0) {
				there = min(there+rate, burst)
			}
		} else {
			n *= 1 + int(calls[k])/32
			ok := 0 <= n && n <= there
			if b.Take(n) != ok {
				t.Fatalf("Take(%d) of %d: not %v", n, there, ok)
			}
			if ok {
				there -= n
			}
		}
		level(t, b, there)
	}
}

func FuzzF1AgainstTheModel(f *testing.F) {
	seed := uint64(6)
	draw := func() int {
		seed = seed*6364136223846793005 + 1442695040888963407
		return int(seed >> 40 & 0xffff)
	}
	for range 60 {
		calls := make([]byte, 200)
		for i := range calls {
			calls[i] = byte(draw())
		}
		f.Add([]int{draw() % 9, draw() % 1003, 0, 1}[draw()%4], []int{draw() % 40, draw() % 1003, 1000, 0}[draw()%4], calls)
	}
	f.Add(-1, 5, []byte{})
	f.Add(5, 1001, []byte{})
	f.Fuzz(play)
}

func TestZ2BucketsShareNothing(t *testing.T) {
	a, b := made(t, 2, 9), made(t, 2, 9)
	take(t, a, 4, true, 5)
	level(t, b, 9)
	tick(t, b, 3, 9)
	level(t, a, 5)
}

func TestZ3ErrorsAreBare(t *testing.T) {
	_, err := New(-1, 0)
	if e, ok := err.(api.Errno); !ok || e != api.ErrBound {
		t.Errorf("New(-1, 0): %T %v", err, err)
	}
	err = made(t, 1, 1).Tick(-1)
	if e, ok := err.(api.Errno); !ok || e != api.ErrBound {
		t.Errorf("Tick(-1): %T %v", err, err)
	}
}
