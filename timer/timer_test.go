package timer_test

import (
	"math/rand"
	"testing"

	"hustings/api"
	"hustings/timer"
)

const (
	most    = 1000 // of least limits
	highest = 1<<63 - 1
	lowest  = -1 << 63
)

func wantState(t *testing.T, what string, x *timer.Timer, quiet, limit int, fresh bool) {
	t.Helper()
	if x.Quiet() != quiet || x.Limit() != limit || x.Fresh() != fresh {
		t.Fatalf("%s: quiet %d, limit %d, fresh %t; want %d, %d, %t", what, x.Quiet(), x.Limit(), x.Fresh(), quiet, limit, fresh)
	}
}

func made(t *testing.T, least, draw int) *timer.Timer {
	t.Helper()
	x, e := timer.New(least, draw)
	if e != api.OK || x == nil {
		t.Fatalf("New(%d, %d): %v, error %d", least, draw, x, e)
	}
	return x
}

// runOut: all ticks up to the limit and some behind it, with what is told at each.
func runOut(t *testing.T, x *timer.Timer, least, limit int) {
	t.Helper()
	wantState(t, "ahead of a tick", x, 0, limit, true)
	for i := 1; i < limit+5; i++ {
		if got := x.Tick(); got != (i >= limit) {
			t.Fatalf("least %d, limit %d: tick %d is %t", least, limit, i, got)
		}
		wantState(t, "behind a tick", x, min(i, limit), limit, i < least)
	}
}

// limitOf: by adding and taking away alone, from a draw that lies near.
func limitOf(least, draw int) int {
	for draw < 0 {
		draw += least
	}
	for draw >= least {
		draw -= least
	}
	return least + draw
}

// P901: of a timer that is nil, or that New did not make, and it stays so.
func TestUnmade(t *testing.T) {
	for what, x := range map[string]*timer.Timer{"nil": nil, "zero": {}, "new": new(timer.Timer)} {
		for _, draw := range []int{0, 1, -1, 23, highest, lowest} {
			if e := x.Reset(draw); e != api.ErrArg {
				t.Errorf("%s: Reset(%d): error %d", what, draw, e)
			}
			if x.Tick() {
				t.Errorf("%s: a tick is true", what)
			}
			wantState(t, what, x, 0, 0, false)
		}
	}
}

// P902: a least limit is from 1 to 1000, whatever the draw.
func TestNewLeast(t *testing.T) {
	for _, draw := range []int{0, 1, -1, highest, lowest} {
		for _, least := range []int{lowest, lowest + 1, -1000, -1, 0, most + 1, 2 * most, 1 << 40, highest} {
			if x, e := timer.New(least, draw); x != nil || e != api.ErrArg {
				t.Errorf("New(%d, %d): %v, error %d", least, draw, x, e)
			}
		}
		for _, least := range []int{1, 2, 999, most} {
			made(t, least, draw)
		}
	}
}

// P902: the limit is least and the rest of the draw, which is never below 0.
func TestLimit(t *testing.T) {
	for _, c := range []struct{ least, draw, limit int }{
		{10, 23, 13},
		{10, 0, 10},
		{10, 9, 19},
		{10, 10, 10},
		{10, 11, 11},
		{10, -1, 19},
		{10, -9, 11},
		{10, -10, 10},
		{10, -11, 19},
		{10, -23, 17},
		{5, -1, 9},
		{1, 0, 1},
		{1, 7, 1},
		{1, -7, 1},
		{1, highest, 1},
		{1, lowest, 1},
		{2, highest, 3},
		{2, lowest, 2},
		{10, highest, 17}, // 9223372036854775807
		{10, lowest, 12},  // -9223372036854775808
		{most, highest, 1807},
		{most, lowest, 1192},
		{most, 999, 1999},
		{most, -1, 1999},
		{most, 1000, 1000},
	} {
		x := made(t, c.least, c.draw)
		wantState(t, "new", x, 0, c.limit, true)
		y := made(t, c.least, 0)
		if e := y.Reset(c.draw); e != api.OK {
			t.Errorf("Reset(%d): error %d", c.draw, e)
		}
		wantState(t, "reset", y, 0, c.limit, true)
	}
}

// P902, P903: each least limit up to 12, and the highest ones, with draws about 0: every tick.
func TestEveryTick(t *testing.T) {
	for _, least := range []int{1, 2, 3, 4, 5, 6, 7, 8, 9, 10, 11, 12, 999, most} {
		for _, near := range []int{0, least, -least, 2 * least} {
			for draw := near - 2; draw <= near+2; draw++ {
				runOut(t, made(t, least, draw), least, limitOf(least, draw))
			}
		}
	}
}

// P902: a Reset begins anew from whatever passed: nothing, a part, the limit, and more; by its own draw alone.
func TestReset(t *testing.T) {
	for ticks := range 15 {
		x := made(t, 5, 3)
		for range ticks {
			x.Tick()
		}
		for _, draw := range []int{0, 4, -2, 7} {
			if e := x.Reset(draw); e != api.OK {
				t.Fatalf("Reset(%d): error %d", draw, e)
			}
			runOut(t, x, 5, limitOf(5, draw))
		}
	}
}

// P902: far behind the limit the count has stopped, and each tick is true still.
func TestLongBehind(t *testing.T) {
	x := made(t, 3, 1)
	for i := range 100000 {
		if x.Tick() != (i >= 3) {
			t.Fatalf("tick %d", i+1)
		}
	}
	wantState(t, "long behind", x, 4, 4, false)
	x.Reset(2)
	runOut(t, x, 3, 5)
}

// P902: looks change nothing, however often one looks.
func TestLooks(t *testing.T) {
	x := made(t, 4, 2)
	x.Tick()
	for range 50 {
		wantState(t, "looks", x, 1, 6, true)
	}
}

// P901: timers share nothing.
func TestApart(t *testing.T) {
	x, y := made(t, 4, 2), made(t, 7, 1)
	x.Tick()
	y.Tick()
	y.Tick()
	x.Reset(3)
	wantState(t, "one", x, 0, 7, true)
	wantState(t, "another", y, 2, 8, true)
}

// P903: over rows of ticks and resets by chance: the first tick that is true is the Limit-th behind a Reset, which lies from least to twice that less 1; a fresh timer had no such tick.
func TestSoonByChance(t *testing.T) {
	chance := rand.New(rand.NewSource(9))
	for range 300 {
		least := 1 + chance.Intn(30)
		x := made(t, least, int(chance.Uint64()))
		passed, reached := 0, false
		for range 300 {
			if chance.Intn(2*least+10) == 0 {
				x.Reset(int(chance.Uint64()))
				passed, reached = 0, false
			}
			limit := x.Limit()
			if limit < least || limit > 2*least-1 {
				t.Fatalf("least %d: limit %d", least, limit)
			}
			passed++
			got := x.Tick()
			if got && !reached && passed != limit || reached && !got {
				t.Fatalf("least %d, limit %d: tick %d is %t", least, limit, passed, got)
			}
			reached = reached || got
			if reached != (passed >= limit) || x.Fresh() && reached {
				t.Fatalf("least %d, limit %d: behind tick %d: reached %t, fresh %t", least, limit, passed, reached, x.Fresh())
			}
		}
	}
}

// P902: each of the limits is drawn, equally often by draws that follow each other.
func TestLimitsAlike(t *testing.T) {
	for _, least := range []int{1, 2, 7, 10} {
		times := map[int]int{}
		x := made(t, least, 0)
		for draw := -5 * least; draw < 5*least; draw++ {
			x.Reset(draw)
			times[x.Limit()]++
		}
		for limit := least; limit < 2*least; limit++ {
			if times[limit] != 10 {
				t.Errorf("least %d: limit %d drawn %d times", least, limit, times[limit])
			}
		}
	}
}
