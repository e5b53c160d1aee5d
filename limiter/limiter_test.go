package limiter_test

import (
	"math"
	"math/rand/v2"
	"testing"

	"adit/api"
	"adit/limiter"
)

// four is an address of IPv4.
func four(a, b, c, d byte) api.Addr { return api.Addr{B: [16]byte{a, b, c, d}} }

// six is an address of IPv6.
func six(b ...byte) api.Addr {
	out := api.Addr{Six: true}
	copy(out.B[:], b)
	return out
}

// nth is an address of IPv4, unlike for each n.
func nth(n int) api.Addr { return four(10, 0, byte(n>>8), byte(n)) }

// wrongAddrs are addresses that may not be.
func wrongAddrs() []api.Addr {
	var out []api.Addr
	for i := 4; i < 16; i++ {
		for _, v := range []byte{1, 128, 255} {
			a := four(10, 0, 0, 1)
			a.B[i] = v
			out = append(out, a)
		}
	}
	return out
}

// wrongTimes are numbers that are no times.
func wrongTimes() []int64 {
	return []int64{-1, -2, -50, -1000, math.MinInt64, math.MinInt64 + 1, api.MaxTime + 1, api.MaxTime + 1000, math.MaxInt64 - 1, math.MaxInt64}
}

// allow holds what Allow answers.
func allow(t *testing.T, l *limiter.Limiter, a api.Addr, at int64, want bool, wantE api.Errno) {
	t.Helper()
	if got, e := l.Allow(a, at); got != want || e != wantE {
		t.Fatalf("Allow(%v, %d): %v %v, want %v %v", a, at, got, e, want, wantE)
	}
}

// level holds what Level answers of a bucket that is there.
func level(t *testing.T, l *limiter.Limiter, a api.Addr, at, want int64) {
	t.Helper()
	if got, there := l.Level(a, at); got != want || !there {
		t.Fatalf("Level(%v, %d): %v %v, want %v", a, at, got, there, want)
	}
}

// none holds that Level finds nothing.
func none(t *testing.T, l *limiter.Limiter, a api.Addr, at int64) {
	t.Helper()
	if got, there := l.Level(a, at); got != 0 || there {
		t.Fatalf("Level(%v, %d): %v %v, want none", a, at, got, there)
	}
}

// count holds how many buckets there are.
func count(t *testing.T, l *limiter.Limiter, want int) {
	t.Helper()
	if got := l.Count(); got != want {
		t.Fatalf("Count: %d, want %d", got, want)
	}
}

// spent is a limiter that an address took all of at a time.
func spent(t *testing.T, a api.Addr, at int64) *limiter.Limiter {
	t.Helper()
	l := limiter.New()
	for range 5 {
		allow(t, l, a, at, true, api.OK)
	}
	return l
}

// The chapter's example.
func TestExample(t *testing.T) {
	l := spent(t, api.Addr{}, 0)
	allow(t, l, api.Addr{}, 0, false, api.OK)
	allow(t, l, api.Addr{}, 50, true, api.OK)
}

// P17.1, P17.2: a limiter that is new has no buckets.
func TestNew(t *testing.T) {
	l := limiter.New()
	if l == nil {
		t.Fatal("New: nil")
	}
	count(t, l, 0)
	for _, a := range []api.Addr{{}, nth(1), six(), six(1, 2, 3)} {
		for _, at := range []int64{0, 1, 1000, api.MaxTime} {
			none(t, l, a, at)
		}
	}
	count(t, l, 0)
	allow(t, l, nth(1), 0, true, api.OK)
	count(t, l, 1)
	count(t, limiter.New(), 0)
	none(t, limiter.New(), nth(1), 0)
}

// P17.1, P17.2: limiters that are nil, or that no call made; ErrNil is told ahead of all else.
func TestNil(t *testing.T) {
	for _, l := range []*limiter.Limiter{nil, {}, new(limiter.Limiter)} {
		for _, a := range append(wrongAddrs(), api.Addr{}, nth(1), six(1)) {
			for _, at := range append(wrongTimes(), 0, 1, api.MaxTime) {
				allow(t, l, a, at, false, api.ErrNil)
				none(t, l, a, at)
			}
		}
		count(t, l, 0)
	}
}

// P17.1, P17.2: an address that may not be; ErrAddr is told ahead of ErrArg.
func TestWrongAddress(t *testing.T) {
	l := limiter.New()
	allow(t, l, nth(1), 100, true, api.OK)
	for _, a := range wrongAddrs() {
		for _, at := range append(wrongTimes(), 0, 99, 100, 101, 5000, api.MaxTime) {
			allow(t, l, a, at, false, api.ErrAddr)
			none(t, l, a, at)
		}
	}
	count(t, l, 1)
	level(t, l, nth(1), 100, 200)
	// Bytes that an address of IPv4 may not have are right of IPv6.
	for _, a := range wrongAddrs() {
		a.Six = true
		if _, e := l.Allow(a, 100); e != api.OK {
			t.Errorf("Allow(%v): %v", a, e)
		}
	}
}

// P17.1, P17.2: numbers that are no times.
func TestWrongTime(t *testing.T) {
	l := limiter.New()
	for _, at := range wrongTimes() {
		allow(t, l, nth(1), at, false, api.ErrArg)
		count(t, l, 0)
	}
	allow(t, l, nth(1), 0, true, api.OK)
	for _, at := range wrongTimes() {
		allow(t, l, nth(1), at, false, api.ErrArg)
		allow(t, l, six(1), at, false, api.ErrArg)
		none(t, l, nth(1), at)
	}
	count(t, l, 1)
	level(t, l, nth(1), 0, 200)
}

// P17.1: the least and the greatest time.
func TestEdgesOfTime(t *testing.T) {
	l := spent(t, nth(1), 0)
	allow(t, l, nth(1), api.MaxTime, true, api.OK)
	level(t, l, nth(1), api.MaxTime, 200)
	level(t, l, nth(1), 0, 200)
	for range 4 {
		allow(t, l, nth(1), api.MaxTime, true, api.OK)
	}
	allow(t, l, nth(1), api.MaxTime, false, api.OK)
	allow(t, l, nth(1), api.MaxTime-1, false, api.ErrArg)
	allow(t, l, nth(1), 0, false, api.ErrArg)
	count(t, l, 1)
}

// P17.1: a time below one with which Allow was OK is refused, whichever address it was for and whatever was answered; the same time is not.
func TestTimeGoesOn(t *testing.T) {
	l := spent(t, nth(1), 100)
	for _, at := range []int64{0, 1, 50, 99} {
		allow(t, l, nth(1), at, false, api.ErrArg)
		allow(t, l, nth(2), at, false, api.ErrArg)
		allow(t, l, six(1), at, false, api.ErrArg)
	}
	count(t, l, 1)
	allow(t, l, nth(1), 100, false, api.OK)
	// OK with false counts, too.
	allow(t, l, nth(1), 120, false, api.OK)
	allow(t, l, nth(1), 119, false, api.ErrArg)
	allow(t, l, nth(2), 119, false, api.ErrArg)
	allow(t, l, nth(2), 120, true, api.OK)
	level(t, l, nth(1), 120, 20)
}

// P17.1: a time with which Allow was neither OK nor ErrFull does not count.
func TestTimeThatDoesNotCount(t *testing.T) {
	l := limiter.New()
	allow(t, l, nth(1), 10, true, api.OK)
	allow(t, l, wrongAddrs()[0], 5000, false, api.ErrAddr)
	allow(t, l, nth(1), api.MaxTime+1, false, api.ErrArg)
	allow(t, l, nth(1), 9, false, api.ErrArg)
	level(t, l, nth(1), 10, 200)
	l.Level(nth(1), 9000)
	l.Count()
	allow(t, l, nth(1), 10, true, api.OK)
	allow(t, l, nth(2), 11, true, api.OK)
	count(t, l, 2)
}

// full is a limiter of as many buckets as there may be, of nth(0) and so on, looked at at a time.
func full(t *testing.T, at int64) *limiter.Limiter {
	t.Helper()
	l := limiter.New()
	for n := range api.MaxBuckets {
		allow(t, l, nth(n), at, true, api.OK)
		count(t, l, n+1)
	}
	return l
}

// P17.1: MaxBuckets buckets, and one more.
func TestFull(t *testing.T) {
	l := full(t, 0)
	for _, a := range []api.Addr{nth(api.MaxBuckets), six(), six(1), four(255, 255, 255, 255)} {
		allow(t, l, a, 0, false, api.ErrFull)
		none(t, l, a, 0)
	}
	count(t, l, api.MaxBuckets)
	// Those that have one are heard as before.
	for n := range api.MaxBuckets {
		level(t, l, nth(n), 0, 200)
		allow(t, l, nth(n), 0, true, api.OK)
		level(t, l, nth(n), 0, 150)
	}
	count(t, l, api.MaxBuckets)
	// What is wrong with an address, or a time, is told ahead of ErrFull.
	allow(t, l, wrongAddrs()[0], 0, false, api.ErrAddr)
	allow(t, l, nth(api.MaxBuckets), -1, false, api.ErrArg)
	allow(t, l, nth(api.MaxBuckets), 999, false, api.ErrFull)
	allow(t, l, nth(api.MaxBuckets), 998, false, api.ErrArg)
}

// P17.1: a time with which Allow was ErrFull counts, and changes nothing else.
func TestTimeOfFull(t *testing.T) {
	l := full(t, 0)
	allow(t, l, nth(100), 500, false, api.ErrFull)
	allow(t, l, nth(0), 499, false, api.ErrArg)
	allow(t, l, nth(100), 499, false, api.ErrArg)
	count(t, l, api.MaxBuckets)
	for n := range api.MaxBuckets {
		// It was not looked at: of 10 milliseconds behind 0, 10 are added.
		level(t, l, nth(n), 10, 210)
	}
	allow(t, l, nth(0), 500, true, api.OK)
	level(t, l, nth(0), 500, 200)
	// All but that one are idle 1000 milliseconds behind 0, not behind 500.
	allow(t, l, nth(100), 999, false, api.ErrFull)
	allow(t, l, nth(100), 1000, true, api.OK)
	count(t, l, 2)
}

// P17.1: one more than MaxBuckets has room, if one of them is idle.
func TestFullWithAnIdleOne(t *testing.T) {
	for idle := range api.MaxBuckets {
		l := full(t, 0)
		for n := range api.MaxBuckets {
			if n != idle {
				allow(t, l, nth(n), 1, true, api.OK)
			}
		}
		allow(t, l, nth(100), 999, false, api.ErrFull)
		allow(t, l, nth(100), 1000, true, api.OK)
		count(t, l, api.MaxBuckets)
		none(t, l, nth(idle), 1000)
		level(t, l, nth(100), 1000, 200)
		allow(t, l, nth(idle), 1000, false, api.ErrFull)
		allow(t, l, nth(idle), 1001, true, api.OK)
		count(t, l, 2)
	}
}

// P17.1: a bucket is idle at just 1000 milliseconds behind the last look.
func TestIdle(t *testing.T) {
	for _, born := range []int64{0, 1, 7, 123456, api.MaxTime - 1000} {
		for _, later := range []int64{0, 1, 999, 1000} {
			l := spent(t, nth(1), born)
			allow(t, l, nth(2), born+later, true, api.OK)
			if later < 1000 {
				count(t, l, 2)
				level(t, l, nth(1), born+later, min(later, 250))
				continue
			}
			count(t, l, 1)
			none(t, l, nth(1), born+later)
		}
	}
	l := spent(t, nth(1), 0)
	allow(t, l, nth(2), 1<<20, true, api.OK)
	count(t, l, 1)
}

// P17.1: it is idle behind the last look, also one that was answered with false, or by nobody else's.
func TestIdleBehindTheLastLook(t *testing.T) {
	l := spent(t, nth(1), 0)
	allow(t, l, nth(1), 10, false, api.OK)
	allow(t, l, nth(2), 900, true, api.OK)
	allow(t, l, nth(2), 1009, true, api.OK)
	count(t, l, 2)
	allow(t, l, nth(2), 1010, true, api.OK)
	count(t, l, 1)
	none(t, l, nth(1), 1010)
	allow(t, l, nth(1), 1010, true, api.OK)
	level(t, l, nth(1), 1010, 200)
	count(t, l, 2)
}

// P17.1: idle ones go with Allow alone, if it is not an error; its own goes, too, and is there again, full.
func TestWhoGoes(t *testing.T) {
	l := limiter.New()
	for n := range 10 {
		allow(t, l, nth(n), int64(n), true, api.OK)
	}
	l.Level(nth(0), 5000)
	allow(t, l, wrongAddrs()[0], 5000, false, api.ErrAddr)
	allow(t, l, nth(0), api.MaxTime+1, false, api.ErrArg)
	allow(t, l, nth(0), 8, false, api.ErrArg)
	count(t, l, 10)
	for n := range 10 {
		level(t, l, nth(n), 5000, 250)
	}
	allow(t, l, nth(3), 1004, true, api.OK)
	// Those of 0 to 4 are idle; the one of 3 is new.
	count(t, l, 6)
	for n := range 10 {
		if n < 5 && n != 3 {
			none(t, l, nth(n), 1004)
		} else if n != 3 {
			level(t, l, nth(n), 1004, 250)
		}
	}
	level(t, l, nth(3), 1004, 200)
	allow(t, l, nth(50), api.MaxTime, true, api.OK)
	count(t, l, 1)
}

// P17.1: a level of just 50, and just below it.
func TestJustEnough(t *testing.T) {
	l := limiter.New()
	for n := range int64(4) {
		allow(t, l, nth(1), 0, true, api.OK)
		level(t, l, nth(1), 0, 200-50*n)
	}
	level(t, l, nth(1), 0, 50)
	allow(t, l, nth(1), 0, true, api.OK)
	level(t, l, nth(1), 0, 0)
	allow(t, l, nth(1), 49, false, api.OK)
	level(t, l, nth(1), 49, 49)
	allow(t, l, nth(1), 49, false, api.OK)
	allow(t, l, nth(1), 50, true, api.OK)
	level(t, l, nth(1), 50, 0)
	// What lies above 50 is kept.
	allow(t, l, nth(1), 149, true, api.OK)
	level(t, l, nth(1), 149, 49)
	allow(t, l, nth(1), 150, true, api.OK)
	level(t, l, nth(1), 150, 0)
}

// P17.1: the level grows by what lies between the looks, however many there are, up to 250.
func TestGrows(t *testing.T) {
	for _, step := range []int64{1, 7, 10, 25, 49} {
		l := spent(t, nth(1), 1000)
		at := int64(1000)
		for at+step < 1050 {
			at += step
			allow(t, l, nth(1), at, false, api.OK)
			level(t, l, nth(1), at, at-1000)
		}
		level(t, l, nth(1), 1050, 50)
		allow(t, l, nth(1), 1050, true, api.OK)
		level(t, l, nth(1), 1050, 0)
	}
	for _, c := range []struct{ later, want int64 }{{0, 0}, {1, 1}, {49, 49}, {50, 0}, {51, 1}, {100, 50}, {249, 199}, {250, 200}, {251, 200}, {300, 200}, {999, 200}, {1000, 200}, {1001, 200}} {
		l := spent(t, nth(1), 5)
		allow(t, l, nth(1), 5+c.later, c.later >= 50, api.OK)
		level(t, l, nth(1), 5+c.later, c.want)
	}
	// A bucket that was full is no fuller later.
	l := limiter.New()
	allow(t, l, nth(1), 0, true, api.OK)
	allow(t, l, nth(1), 40, true, api.OK)
	level(t, l, nth(1), 40, 190)
	allow(t, l, nth(1), 100, true, api.OK)
	level(t, l, nth(1), 100, 200)
}

// P17.2: Level at each time: what is added, how much at most, and nothing of a time ahead of the last look.
func TestLevel(t *testing.T) {
	l := spent(t, nth(1), 0)
	allow(t, l, nth(1), 30, false, api.OK)
	for _, c := range []struct{ at, want int64 }{{0, 30}, {1, 30}, {29, 30}, {30, 30}, {31, 31}, {80, 80}, {249, 249}, {250, 250}, {251, 250}, {1029, 250}, {1030, 250}, {1031, 250}, {1 << 30, 250}, {api.MaxTime, 250}} {
		level(t, l, nth(1), c.at, c.want)
	}
	for _, at := range wrongTimes() {
		none(t, l, nth(1), at)
	}
	for _, at := range []int64{0, 30, 1030, api.MaxTime} {
		none(t, l, nth(2), at)
		none(t, l, six(10, 0, 0, 1), at)
	}
	// To ask changes nothing.
	count(t, l, 1)
	level(t, l, nth(1), 30, 30)
	allow(t, l, nth(1), 30, false, api.OK)
	allow(t, l, nth(1), 50, true, api.OK)
}

// P17.2: of IPv6, Level is that of the place.
func TestLevelOfAPlace(t *testing.T) {
	l := limiter.New()
	allow(t, l, six(1, 2, 3, 4, 5, 6, 7, 8, 9), 0, true, api.OK)
	level(t, l, six(1, 2, 3, 4, 5, 6, 7, 8), 0, 200)
	level(t, l, six(1, 2, 3, 4, 5, 6, 7, 8, 255, 255, 255, 255, 255, 255, 255, 255), 10, 210)
	none(t, l, six(1, 2, 3, 4, 5, 6, 7, 9), 0)
}

// P17.1, P17.4: addresses of IPv6 whose first 64 digits are the same have one bucket, others have two.
func TestPlacesOfSix(t *testing.T) {
	base := six(0x20, 0x01, 0x0d, 0xb8, 1, 2, 3, 4, 5, 6, 7, 8, 9, 10, 11, 12)
	for n := range 128 {
		other := base
		other.B[n/8] ^= 128 >> (n % 8)
		l := spent(t, base, 0)
		allow(t, l, other, 0, n < 64, api.OK)
		if n < 64 {
			count(t, l, 2)
			level(t, l, other, 0, 200)
			level(t, l, base, 0, 0)
			continue
		}
		count(t, l, 1)
		level(t, l, other, 0, 0)
		allow(t, l, other, 50, true, api.OK)
		allow(t, l, base, 50, false, api.OK)
	}
}

// P17.1, P17.4: addresses of IPv4 each have their own, and none is one of IPv6.
func TestPlacesOfFour(t *testing.T) {
	base := four(10, 1, 2, 3)
	for n := range 32 {
		other := base
		other.B[n/8] ^= 128 >> (n % 8)
		l := spent(t, base, 0)
		allow(t, l, other, 0, true, api.OK)
		count(t, l, 2)
		level(t, l, other, 0, 200)
		level(t, l, base, 0, 0)
		allow(t, l, base, 0, false, api.OK)
	}
	for _, a := range []api.Addr{{}, base, four(255, 255, 255, 255), four(0, 0, 0, 1)} {
		twin := a
		twin.Six = true
		l := spent(t, a, 0)
		none(t, l, twin, 0)
		allow(t, l, twin, 0, true, api.OK)
		allow(t, l, a, 0, false, api.OK)
		count(t, l, 2)
	}
}

// P17.1: limiters have nothing in common.
func TestTwoLimiters(t *testing.T) {
	l, m := limiter.New(), limiter.New()
	for range 5 {
		allow(t, l, nth(1), 700, true, api.OK)
	}
	count(t, m, 0)
	allow(t, m, nth(1), 0, true, api.OK)
	allow(t, l, nth(1), 700, false, api.OK)
	level(t, m, nth(1), 0, 200)
	allow(t, l, nth(1), 699, false, api.ErrArg)
	allow(t, m, nth(1), 699, true, api.OK)
}

// P17.3: five come through at once, then one each 50 milliseconds.
func TestRate(t *testing.T) {
	l := limiter.New()
	through := 0
	for at := range int64(3001) {
		for range 3 {
			ok, e := l.Allow(nth(1), at)
			if e != api.OK {
				t.Fatal(e)
			}
			if ok {
				through++
			}
		}
		if at >= 2 && through != 5+int(at)/50 {
			t.Fatalf("at %d: %d came through", at, through)
		}
	}
}

// P17.3: in any t milliseconds at most 5 + t / 50 come through, whenever they ask.
func TestRateOfMany(t *testing.T) {
	r := rand.New(rand.NewPCG(17, 1))
	for range 40 {
		l := limiter.New()
		var times []int64
		at := int64(r.IntN(1000))
		most := []int64{2, 20, 60, 120, 1200}[r.IntN(5)]
		for range 600 {
			at += r.Int64N(most)
			if ok, e := l.Allow(nth(1), at); e != api.OK {
				t.Fatal(e)
			} else if ok {
				times = append(times, at)
			}
		}
		for i := range times {
			for j := i; j < len(times); j++ {
				if int64(j-i+1) > 5+(times[j]-times[i])/50 {
					t.Fatalf("%d from %d to %d", j-i+1, times[i], times[j])
				}
			}
		}
	}
}

// P17.4: what others ask for changes no answer, as long as there is room.
func TestOthers(t *testing.T) {
	r := rand.New(rand.NewPCG(17, 2))
	for range 30 {
		var alone [api.MaxBuckets]*limiter.Limiter
		for n := range alone {
			alone[n] = limiter.New()
		}
		l := limiter.New()
		at := int64(0)
		for range 2000 {
			at += []int64{0, 0, 0, 1, 3, 50, 200}[r.IntN(7)]
			n := r.IntN(api.MaxBuckets)
			a := nth(n)
			if n%3 == 0 {
				a = six(byte(n), 0, 0, 0, 0, 0, 0, 1, byte(r.IntN(256)))
			}
			want, _ := alone[n].Allow(a, at)
			allow(t, l, a, at, want, api.OK)
		}
	}
}

// P17.5: who waits 50 milliseconds comes through, however often it was refused.
func TestWaits(t *testing.T) {
	r := rand.New(rand.NewPCG(17, 3))
	l := limiter.New()
	at := int64(0)
	for range 5000 {
		switch r.IntN(4) {
		case 0:
			at += 50
			allow(t, l, nth(1), at, true, api.OK)
		case 1:
			at += 50 + r.Int64N(1500)
			allow(t, l, nth(1), at, true, api.OK)
		default:
			at += r.Int64N(50)
			if _, e := l.Allow(nth(1), at); e != api.OK {
				t.Fatal(e)
			}
		}
	}
}

// row is a bucket of a model.
type row struct {
	place         api.Addr
	level, looked int64
}

// model is a limiter, as the chapter's words have it: a list of buckets.
type model struct {
	rows  []row
	floor int64
}

// placeOf is an address' place.
func placeOf(a api.Addr) api.Addr {
	if a.Six {
		for i := 8; i < 16; i++ {
			a.B[i] = 0
		}
	}
	return a
}

// right tells whether an address may be.
func right(a api.Addr) bool {
	return a.Six || [12]byte(a.B[4:]) == [12]byte{}
}

// at is the place of a bucket in the list, or -1.
func (m *model) at(place api.Addr) int {
	for i, r := range m.rows {
		if r.place == place {
			return i
		}
	}
	return -1
}

// allow is what Allow answers.
func (m *model) allow(a api.Addr, t int64) (bool, api.Errno) {
	if !right(a) {
		return false, api.ErrAddr
	}
	if t < 0 || t > api.MaxTime || t < m.floor {
		return false, api.ErrArg
	}
	var left []row
	for _, r := range m.rows {
		if t-r.looked < 1000 {
			left = append(left, r)
		}
	}
	m.rows, m.floor = left, t
	i := m.at(placeOf(a))
	if i < 0 && len(m.rows) == api.MaxBuckets {
		return false, api.ErrFull
	}
	if i < 0 {
		i = len(m.rows)
		m.rows = append(m.rows, row{placeOf(a), 250, t})
	}
	grown := m.rows[i].level + t - m.rows[i].looked
	if grown > 250 {
		grown = 250
	}
	m.rows[i].looked, m.rows[i].level = t, grown
	if grown < 50 {
		return false, api.OK
	}
	m.rows[i].level -= 50
	return true, api.OK
}

// level is what Level answers.
func (m *model) level(a api.Addr, t int64) (int64, bool) {
	i := m.at(placeOf(a))
	if !right(a) || t < 0 || t > api.MaxTime || i < 0 {
		return 0, false
	}
	r := m.rows[i]
	if t > r.looked {
		r.level = min(250, r.level+t-r.looked)
	}
	return r.level, true
}

// some is an address out of so many, or, at times, one that may not be.
func some(r *rand.Rand, many int) api.Addr {
	switch r.IntN(12) {
	case 0:
		return wrongAddrs()[r.IntN(len(wrongAddrs()))]
	case 1, 2, 3, 4:
		return six(0x20, 1, 0, 0, 0, 0, 0, byte(r.IntN(many)), byte(r.IntN(3)))
	}
	return nth(r.IntN(many))
}

// P17.1 to P17.5: limiters beside a model.
func TestBesideAModel(t *testing.T) {
	r := rand.New(rand.NewPCG(17, 4))
	for n := range 150 {
		l, m := limiter.New(), &model{}
		many := []int{2, 10, 20, 60}[n%4]
		slow := []int64{2, 30, 150, 1100}[r.IntN(4)]
		at := []int64{0, 77, 1 << 33, api.MaxTime - 3000}[r.IntN(4)]
		for range 400 {
			a, asked := some(r, many), at
			switch r.IntN(20) {
			case 0:
				asked = wrongTimes()[r.IntN(len(wrongTimes()))]
			case 1:
				asked = at - r.Int64N(100) - 1
			default:
				at += r.Int64N(slow)
				asked = at
			}
			want, wantE := m.allow(a, asked)
			allow(t, l, a, asked, want, wantE)
			count(t, l, len(m.rows))
			b := some(r, many)
			for _, look := range []int64{asked, at, at - 5, at + 20, at + 2000, 0} {
				got, there := l.Level(b, look)
				if want, wanted := m.level(b, look); got != want || there != wanted {
					t.Fatalf("Level(%v, %d): %d %v, want %d %v", b, look, got, there, want, wanted)
				}
			}
		}
	}
}

// P1: no arguments, and no limiter, make a call panic.
func TestNoPanic(t *testing.T) {
	ends := append(wrongTimes(), 0, 1, 999, 1000, api.MaxTime-1, api.MaxTime)
	for _, first := range ends {
		for _, second := range ends {
			l := limiter.New()
			for _, a := range append(wrongAddrs(), nth(1), six()) {
				l.Allow(a, first)
				l.Level(a, second)
				l.Allow(a, second)
				l.Level(a, first)
			}
			if l.Count() > 2 {
				t.Fatalf("%d %d: %d buckets", first, second, l.Count())
			}
		}
	}
}
