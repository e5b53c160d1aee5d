package wheel_test

import (
	"cmp"
	"math"
	"math/rand/v2"
	"slices"
	"testing"

	"adit/api"
	"adit/wheel"
)

// timer is one of an owner and a kind, at a time.
func timer(owner, kind int, at int64) wheel.Timer {
	return wheel.Timer{Owner: owner, Kind: kind, At: at}
}

// wrongTimes are numbers that are no times.
func wrongTimes() []int64 {
	return []int64{-1, -2, -256, -16384, math.MinInt64, math.MinInt64 + 1, api.MaxTime + 1, api.MaxTime + 256, math.MaxInt64 - 1, math.MaxInt64}
}

// fresh is a wheel without timers.
func fresh(t *testing.T, now int64) *wheel.Wheel {
	t.Helper()
	w, e := wheel.New(now)
	if e != api.OK || w == nil {
		t.Fatalf("New(%d): %v %v", now, w, e)
	}
	return w
}

// set holds what Set answers.
func set(t *testing.T, w *wheel.Wheel, owner, kind int, at int64, want api.Errno) {
	t.Helper()
	if e := w.Set(owner, kind, at); e != want {
		t.Fatalf("Set(%d, %d, %d): %v, want %v", owner, kind, at, e, want)
	}
}

// setAll sets timers.
func setAll(t *testing.T, w *wheel.Wheel, l ...wheel.Timer) {
	t.Helper()
	for _, x := range l {
		set(t, w, x.Owner, x.Kind, x.At, api.OK)
	}
}

// clears holds what Clear answers.
func clears(t *testing.T, w *wheel.Wheel, owner, kind int, want bool) {
	t.Helper()
	if got := w.Clear(owner, kind); got != want {
		t.Fatalf("Clear(%d, %d): %v, want %v", owner, kind, got, want)
	}
}

// clearsAll holds what ClearAll answers.
func clearsAll(t *testing.T, w *wheel.Wheel, owner, want int) {
	t.Helper()
	if got := w.ClearAll(owner); got != want {
		t.Fatalf("ClearAll(%d): %d, want %d", owner, got, want)
	}
}

// has holds a timer's time.
func has(t *testing.T, w *wheel.Wheel, owner, kind int, want int64) {
	t.Helper()
	if at, there := w.Get(owner, kind); at != want || !there {
		t.Fatalf("Get(%d, %d): %d %v, want %d", owner, kind, at, there, want)
	}
}

// lacks holds that there is no such timer.
func lacks(t *testing.T, w *wheel.Wheel, owner, kind int) {
	t.Helper()
	if at, there := w.Get(owner, kind); at != 0 || there {
		t.Fatalf("Get(%d, %d): %d %v, want none", owner, kind, at, there)
	}
}

// count holds how many timers there are.
func count(t *testing.T, w *wheel.Wheel, want int) {
	t.Helper()
	if got := w.Count(); got != want {
		t.Fatalf("Count: %d, want %d", got, want)
	}
}

// now holds a wheel's now.
func now(t *testing.T, w *wheel.Wheel, want int64) {
	t.Helper()
	if got := w.Now(); got != want {
		t.Fatalf("Now: %d, want %d", got, want)
	}
}

// next holds which timer is the first one.
func next(t *testing.T, w *wheel.Wheel, want wheel.Timer) {
	t.Helper()
	if got, some := w.Next(); got != want || !some {
		t.Fatalf("Next: %v %v, want %v", got, some, want)
	}
}

// noNext holds that there is no first timer.
func noNext(t *testing.T, w *wheel.Wheel) {
	t.Helper()
	if got, some := w.Next(); got != (wheel.Timer{}) || some {
		t.Fatalf("Next: %v %v, want none", got, some)
	}
}

// advance holds which timers are due.
func advance(t *testing.T, w *wheel.Wheel, to int64, want ...wheel.Timer) {
	t.Helper()
	got, e := w.Advance(to)
	if e != api.OK || !slices.Equal(got, want) {
		t.Fatalf("Advance(%d): %v %v, want %v", to, got, e, want)
	}
	now(t, w, to)
}

// noAdvance holds that the time does not go on.
func noAdvance(t *testing.T, w *wheel.Wheel, to int64, want api.Errno) {
	t.Helper()
	before := w.Now()
	if got, e := w.Advance(to); e != want || len(got) != 0 {
		t.Fatalf("Advance(%d): %v %v, want %v", to, got, e, want)
	}
	now(t, w, before)
}

// byOrder is the order of timers.
func byOrder(a, b wheel.Timer) int {
	return cmp.Or(cmp.Compare(a.At, b.At), cmp.Compare(a.Owner, b.Owner), cmp.Compare(a.Kind, b.Kind))
}

// ordered are timers in their order.
func ordered(l []wheel.Timer) []wheel.Timer { return slices.SortedFunc(slices.Values(l), byOrder) }

// The chapter's example.
func TestExample(t *testing.T) {
	w := fresh(t, 0)
	set(t, w, 1, 2, 5, api.OK)
	advance(t, w, 4)
	advance(t, w, 5, timer(1, 2, 5))
	advance(t, w, 5)
}

// P21.1: a wheel that is new has its now, and no timers.
func TestNew(t *testing.T) {
	for _, at := range []int64{0, 1, 255, 256, 16383, 16384, 123456789, api.MaxTime - 1, api.MaxTime} {
		w := fresh(t, at)
		now(t, w, at)
		count(t, w, 0)
		noNext(t, w)
		lacks(t, w, 0, 0)
		clears(t, w, 0, 0, false)
		clearsAll(t, w, 0, 0)
		advance(t, w, at)
		advance(t, w, api.MaxTime)
	}
	for _, at := range wrongTimes() {
		if w, e := wheel.New(at); w != nil || e != api.ErrArg {
			t.Errorf("New(%d): %v %v", at, w, e)
		}
	}
}

// P21.1: wheels that are nil, or that no call made; ErrNil is told ahead of all else.
func TestNil(t *testing.T) {
	for _, w := range []*wheel.Wheel{nil, {}, new(wheel.Wheel)} {
		for range 2 {
			for _, owner := range []int{math.MinInt, -1, 0, 1, api.MaxTimers, math.MaxInt} {
				for _, at := range append(wrongTimes(), 0, 1, api.MaxTime) {
					set(t, w, owner, 0, at, api.ErrNil)
					set(t, w, 0, owner, at, api.ErrNil)
					noAdvance(t, w, at, api.ErrNil)
				}
				clears(t, w, owner, 0, false)
				clears(t, w, 0, owner, false)
				clearsAll(t, w, owner, 0)
				lacks(t, w, owner, 0)
				lacks(t, w, 0, owner)
			}
			now(t, w, 0)
			count(t, w, 0)
			noNext(t, w)
		}
	}
}

// P1: a wheel that is copied by its value ends each call, as the one that it is a copy of does.
func TestCopied(t *testing.T) {
	w := fresh(t, 0)
	for n := range api.MaxTimers {
		set(t, w, n%5, n, int64(n*n*40), api.OK)
	}
	c := *w
	for n := range api.MaxTimers {
		c.Clear(n%5, n)
		w.Next()
		w.Advance(int64(n * 3000))
		c.Set(n, n, int64(n*100))
		c.Next()
		w.Clear(n, n)
		c.Advance(int64(n * 90))
		w.ClearAll(n)
	}
	w.Advance(api.MaxTime)
	c.Advance(api.MaxTime)
	w.Set(1, 1, 0)
	w.Set(1, 1, api.MaxTime)
	c.Set(2, 2, api.MaxTime)
}

// P21.1: wheels have nothing in common.
func TestTwoWheels(t *testing.T) {
	w, v := fresh(t, 0), fresh(t, 10)
	setAll(t, w, timer(1, 1, 20), timer(2, 1, 20))
	count(t, v, 0)
	noNext(t, v)
	lacks(t, v, 1, 1)
	set(t, v, 1, 1, 30, api.OK)
	has(t, w, 1, 1, 20)
	clears(t, v, 1, 1, true)
	has(t, w, 1, 1, 20)
	advance(t, v, 1000)
	now(t, w, 0)
	advance(t, w, 20, timer(1, 1, 20), timer(2, 1, 20))
}

// P21.1: what is wrong with Set's numbers, and that nothing has changed then.
func TestSetOfWrongNumbers(t *testing.T) {
	w := fresh(t, 1000)
	set(t, w, 1, 2, 1500, api.OK)
	for _, n := range []int{-1, -2, -64, math.MinInt, math.MinInt + 1} {
		for _, at := range append(wrongTimes(), 0, 999, 1000, 1500, api.MaxTime) {
			set(t, w, n, 2, at, api.ErrArg)
			set(t, w, 1, n, at, api.ErrArg)
			set(t, w, n, n, at, api.ErrArg)
			lacks(t, w, n, 2)
			lacks(t, w, 1, n)
			clears(t, w, n, 2, false)
			clears(t, w, 1, n, false)
			clearsAll(t, w, n, 0)
		}
	}
	for _, at := range append(wrongTimes(), 0, 1, 256, 744, 998, 999) {
		set(t, w, 1, 2, at, api.ErrArg)
		set(t, w, 3, 4, at, api.ErrArg)
		lacks(t, w, 3, 4)
	}
	count(t, w, 1)
	has(t, w, 1, 2, 1500)
	next(t, w, timer(1, 2, 1500))
	now(t, w, 1000)
	advance(t, w, api.MaxTime, timer(1, 2, 1500))
}

// P21.1: a time at just now, and just below it, at each now.
func TestSetAtNow(t *testing.T) {
	for _, at := range []int64{0, 1, 255, 256, 257, 16383, 16384, 16385, 1 << 30, api.MaxTime - 1, api.MaxTime} {
		w := fresh(t, at)
		set(t, w, 1, 1, at-1, api.ErrArg)
		set(t, w, 1, 1, at, api.OK)
		next(t, w, timer(1, 1, at))
		advance(t, w, at, timer(1, 1, at))
		count(t, w, 0)
		advance(t, w, at)
		// The wheel is where it was, whether it was made there or went there.
		v := fresh(t, 0)
		advance(t, v, at)
		set(t, v, 1, 1, at-1, api.ErrArg)
		set(t, v, 1, 1, at, api.OK)
		set(t, v, 1, 2, api.MaxTime+1, api.ErrArg)
		set(t, v, 1, 2, api.MaxTime, api.OK)
		clears(t, v, 1, 2, true)
		advance(t, v, at, timer(1, 1, at))
	}
}

// P21.1: owners and kinds of all sizes, each with a timer of its own.
func TestOwnersAndKinds(t *testing.T) {
	numbers := []int{0, 1, 2, 63, 64, 1 << 32, math.MaxInt - 1, math.MaxInt}
	w := fresh(t, 0)
	var want []wheel.Timer
	for i, owner := range numbers {
		for j, kind := range numbers {
			x := timer(owner, kind, int64(1000*i+j))
			set(t, w, owner, kind, x.At, api.OK)
			want = append(want, x)
			count(t, w, len(want))
		}
	}
	for _, x := range want {
		has(t, w, x.Owner, x.Kind, x.At)
	}
	advance(t, w, api.MaxTime, want...)
}

// many are as many timers as there may be.
func many() []wheel.Timer {
	var out []wheel.Timer
	for n := range api.MaxTimers {
		out = append(out, timer(n/8, n%8, int64(1000+n*700)))
	}
	return out
}

// P21.1: MaxTimers timers, and one more: of a new owner, of a new kind, and of one that is there.
func TestFull(t *testing.T) {
	w := fresh(t, 0)
	for n, x := range many() {
		count(t, w, n)
		set(t, w, x.Owner, x.Kind, x.At, api.OK)
	}
	for _, at := range []int64{0, 1000, 1001, 45100, 45101, api.MaxTime} {
		set(t, w, 8, 0, at, api.ErrFull)
		set(t, w, 0, 8, at, api.ErrFull)
		set(t, w, 100, 100, at, api.ErrFull)
		set(t, w, math.MaxInt, math.MaxInt, at, api.ErrFull)
	}
	lacks(t, w, 8, 0)
	lacks(t, w, 0, 8)
	count(t, w, api.MaxTimers)
	// What is wrong with a number is told ahead of ErrFull.
	set(t, w, -1, 0, 0, api.ErrArg)
	set(t, w, 8, -1, 0, api.ErrArg)
	set(t, w, 8, 0, -1, api.ErrArg)
	set(t, w, 8, 0, api.MaxTime+1, api.ErrArg)
	count(t, w, api.MaxTimers)
	advance(t, w, api.MaxTime, many()...)
	count(t, w, 0)
}

// P21.1: of a full wheel each timer that is there may be set anew.
func TestFullSetAnew(t *testing.T) {
	w := fresh(t, 0)
	setAll(t, w, many()...)
	var want []wheel.Timer
	for n, x := range many() {
		x.At = int64(50000 - n*31)
		set(t, w, x.Owner, x.Kind, x.At, api.OK)
		has(t, w, x.Owner, x.Kind, x.At)
		count(t, w, api.MaxTimers)
		set(t, w, 8, 0, x.At, api.ErrFull)
		want = append(want, x)
	}
	advance(t, w, api.MaxTime, ordered(want)...)
}

// P21.1: a full wheel has room again behind what takes timers away.
func TestRoomAgain(t *testing.T) {
	w := fresh(t, 0)
	setAll(t, w, many()...)
	set(t, w, 9, 9, 5, api.ErrFull)
	clears(t, w, 3, 3, true)
	set(t, w, 9, 9, 5, api.OK)
	set(t, w, 3, 3, 5, api.ErrFull)
	advance(t, w, 5, timer(9, 9, 5))
	set(t, w, 3, 3, 5, api.OK)
	set(t, w, 9, 9, 5, api.ErrFull)
	clearsAll(t, w, 3, 8)
	for n := range 8 {
		set(t, w, 9, n, 6, api.OK)
	}
	set(t, w, 9, 8, 6, api.ErrFull)
	set(t, w, 3, 0, 6, api.ErrFull)
	count(t, w, api.MaxTimers)
}

// spans are how far ahead timers may be: on both sides of each power of two, and of some others.
func spans() []int64 {
	out := []int64{0, 1, 4, 5, 99, 100, 5000, 10000, 16500, 20000, 90000, 120000, 180000, 200000, 65535000}
	for n := range 41 {
		out = append(out, 1<<n-1, 1<<n, 1<<n+1)
	}
	out = slices.DeleteFunc(out, func(n int64) bool { return n > api.MaxTime })
	slices.Sort(out)
	return slices.Compact(out)
}

// P21.1, P21.3: a timer that is set anew, to each time from each time, comes once, at its new time.
func TestSetAnew(t *testing.T) {
	for _, before := range spans() {
		for _, after := range spans() {
			w := fresh(t, 0)
			set(t, w, 1, 2, before, api.OK)
			set(t, w, 1, 2, after, api.OK)
			count(t, w, 1)
			has(t, w, 1, 2, after)
			next(t, w, timer(1, 2, after))
			if after > 0 {
				advance(t, w, after-1)
			}
			advance(t, w, after, timer(1, 2, after))
			count(t, w, 0)
			noNext(t, w)
			advance(t, w, api.MaxTime)
		}
	}
}

// P21.1: a timer that is set anew has no other's place.
func TestSetAnewBesideOthers(t *testing.T) {
	w := fresh(t, 0)
	setAll(t, w, timer(1, 1, 100), timer(1, 2, 100), timer(2, 1, 100), timer(2, 2, 100))
	set(t, w, 1, 2, 50, api.OK)
	next(t, w, timer(1, 2, 50))
	set(t, w, 2, 1, 200, api.OK)
	set(t, w, 2, 2, 100, api.OK)
	count(t, w, 4)
	has(t, w, 1, 1, 100)
	advance(t, w, 99, timer(1, 2, 50))
	set(t, w, 1, 2, 99, api.OK)
	count(t, w, 4)
	advance(t, w, 1000, timer(1, 2, 99), timer(1, 1, 100), timer(2, 2, 100), timer(2, 1, 200))
	// What came may be set again, and comes again.
	set(t, w, 1, 2, 1000, api.OK)
	advance(t, w, 1001, timer(1, 2, 1000))
}

// P21.1: Clear takes one timer away, once.
func TestClear(t *testing.T) {
	for _, at := range spans() {
		w := fresh(t, 0)
		setAll(t, w, timer(1, 1, at), timer(1, 2, at), timer(2, 1, at))
		clears(t, w, 2, 2, false)
		clears(t, w, 0, 1, false)
		clears(t, w, 1, 0, false)
		count(t, w, 3)
		clears(t, w, 1, 2, true)
		clears(t, w, 1, 2, false)
		count(t, w, 2)
		lacks(t, w, 1, 2)
		has(t, w, 1, 1, at)
		has(t, w, 2, 1, at)
		advance(t, w, api.MaxTime, timer(1, 1, at), timer(2, 1, at))
		clears(t, w, 1, 1, false)
		clears(t, w, 2, 1, false)
		count(t, w, 0)
	}
}

// P21.1: Clear of each one of several, wherever it stands.
func TestClearEach(t *testing.T) {
	all := []wheel.Timer{timer(1, 1, 7), timer(1, 2, 7), timer(3, 0, 7), timer(0, 5, 8), timer(1, 3, 200), timer(0, 0, 7+16384), timer(2, 2, 8+16384), timer(0, 1, 300), timer(4, 4, 1<<35)}
	for n, x := range all {
		w := fresh(t, 0)
		setAll(t, w, all...)
		clears(t, w, x.Owner, x.Kind, true)
		lacks(t, w, x.Owner, x.Kind)
		rest := ordered(slices.Delete(slices.Clone(all), n, n+1))
		next(t, w, rest[0])
		count(t, w, len(rest))
		advance(t, w, api.MaxTime, rest...)
	}
}

// P21.1: ClearAll takes the timers of one owner away, and tells how many.
func TestClearAll(t *testing.T) {
	for n := range 9 {
		w := fresh(t, 0)
		for kind := range n {
			set(t, w, 5, kind, int64(kind)*11000, api.OK)
		}
		setAll(t, w, timer(0, 5, 10), timer(4, 0, 20), timer(6, 1, 30000), timer(50, 5, 1<<33))
		count(t, w, n+4)
		clearsAll(t, w, 3, 0)
		clearsAll(t, w, -5, 0)
		clearsAll(t, w, math.MaxInt, 0)
		count(t, w, n+4)
		clearsAll(t, w, 5, n)
		clearsAll(t, w, 5, 0)
		count(t, w, 4)
		for kind := range n {
			lacks(t, w, 5, kind)
		}
		advance(t, w, api.MaxTime, timer(0, 5, 10), timer(4, 0, 20), timer(6, 1, 30000), timer(50, 5, 1<<33))
	}
	w := fresh(t, 0)
	for kind := range api.MaxTimers {
		set(t, w, 0, kind, int64(kind), api.OK)
	}
	clearsAll(t, w, 1, 0)
	clearsAll(t, w, 0, api.MaxTimers)
	count(t, w, 0)
	noNext(t, w)
	advance(t, w, api.MaxTime)
}

// P21.1: Get, Count and Next change nothing, however often they are asked.
func TestAsked(t *testing.T) {
	w := fresh(t, 100)
	setAll(t, w, timer(1, 1, 100), timer(0, 2, 150), timer(0, 1, 30000))
	for range 3 {
		next(t, w, timer(1, 1, 100))
		count(t, w, 3)
		has(t, w, 1, 1, 100)
		has(t, w, 0, 2, 150)
		has(t, w, 0, 1, 30000)
		lacks(t, w, 1, 2)
		lacks(t, w, 2, 1)
		lacks(t, w, 0, 0)
		now(t, w, 100)
	}
	advance(t, w, 30000, timer(1, 1, 100), timer(0, 2, 150), timer(0, 1, 30000))
}

// P21.1: Next is the first one by the order, of two at all spans and of unlike owners and kinds.
func TestNextOfTwo(t *testing.T) {
	names := [][2]int{{0, 0}, {0, 1}, {1, 0}, {2, 10}, {10, 2}}
	for _, start := range []int64{0, 255, 16000} {
		for _, one := range spans() {
			for _, two := range spans() {
				if start+max(one, two) > api.MaxTime {
					continue
				}
				for i := range names {
					a := timer(names[i][0], names[i][1], start+one)
					b := timer(names[(i+1)%len(names)][0], names[(i+1)%len(names)][1], start+two)
					w := fresh(t, start)
					setAll(t, w, a, b)
					both := ordered([]wheel.Timer{a, b})
					next(t, w, both[0])
					advance(t, w, both[0].At, slices.DeleteFunc(slices.Clone(both), func(x wheel.Timer) bool { return x.At > both[0].At })...)
				}
			}
		}
	}
}

// P21.1, P21.2: timers of one time come by owner, then by kind, however they were set.
func TestOneTime(t *testing.T) {
	want := []wheel.Timer{timer(0, 0, 9), timer(0, 3, 9), timer(1, 0, 9), timer(1, 2, 9), timer(1, 10, 9), timer(2, 1, 9), timer(9, 0, 9), timer(10, 0, 9), timer(100, 5, 9), timer(math.MaxInt, 0, 9), timer(math.MaxInt, math.MaxInt, 9)}
	random := rand.New(rand.NewPCG(21, 2))
	for range 200 {
		l := slices.Clone(want)
		random.Shuffle(len(l), func(i, j int) { l[i], l[j] = l[j], l[i] })
		w := fresh(t, 0)
		setAll(t, w, l...)
		next(t, w, want[0])
		advance(t, w, 8)
		advance(t, w, 9, want...)
	}
}

// P21.1, P21.2: the time counts ahead of the owner, and the owner ahead of the kind.
func TestOrder(t *testing.T) {
	var all []wheel.Timer
	for at := range int64(3) {
		for n := range 9 {
			all = append(all, timer(n/3+10*int(2-at), 2-n%3, at))
		}
	}
	w := fresh(t, 0)
	setAll(t, w, all...)
	want := ordered(all)
	for n := range want {
		next(t, w, want[n])
		clears(t, w, want[n].Owner, want[n].Kind, true)
	}
	setAll(t, w, all...)
	advance(t, w, 2, want...)
}

// P21.2: what is wrong with a time that is gone on to, and that nothing has changed then.
func TestAdvanceOfWrongTimes(t *testing.T) {
	w := fresh(t, 1000)
	setAll(t, w, timer(1, 1, 1000), timer(1, 2, 1001))
	for _, to := range append(wrongTimes(), 0, 1, 744, 998, 999) {
		noAdvance(t, w, to, api.ErrArg)
		count(t, w, 2)
		next(t, w, timer(1, 1, 1000))
	}
	advance(t, w, 1000, timer(1, 1, 1000))
	advance(t, w, 1001, timer(1, 2, 1001))
	noAdvance(t, w, 1000, api.ErrArg)
	advance(t, w, api.MaxTime)
	for _, to := range append(wrongTimes(), 0, 1001, api.MaxTime-1) {
		noAdvance(t, w, to, api.ErrArg)
	}
	advance(t, w, api.MaxTime)
}

// P21.2, P21.3: a timer at each span comes at just its time, not one millisecond ahead.
func TestJustInTime(t *testing.T) {
	for _, start := range []int64{0, 1, 255, 256, 16383, 16384, 1 << 33, api.MaxTime - 20000} {
		for _, span := range spans() {
			at := start + span
			if at > api.MaxTime {
				continue
			}
			x := timer(3, 4, at)
			w := fresh(t, start)
			setAll(t, w, x)
			if span > 0 {
				advance(t, w, at-1)
				next(t, w, x)
				advance(t, w, at-1)
			}
			advance(t, w, at, x)
			advance(t, w, at)
			lacks(t, w, 3, 4)
			v := fresh(t, start)
			setAll(t, v, x)
			advance(t, v, api.MaxTime, x)
		}
	}
}

// P21.2: those that are due are gone, those that are not stay.
func TestSomeAreDue(t *testing.T) {
	for n := range many() {
		w := fresh(t, 0)
		setAll(t, w, many()...)
		to := many()[n].At
		advance(t, w, to, many()[:n+1]...)
		count(t, w, api.MaxTimers-n-1)
		for i, x := range many() {
			if i <= n {
				lacks(t, w, x.Owner, x.Kind)
				clears(t, w, x.Owner, x.Kind, false)
				continue
			}
			has(t, w, x.Owner, x.Kind, x.At)
		}
		advance(t, w, to)
		advance(t, w, api.MaxTime, many()[n+1:]...)
	}
}

// P21.2: what was told is whoever asked's: the wheel keeps nothing of it.
func TestToldIsNew(t *testing.T) {
	w := fresh(t, 0)
	setAll(t, w, timer(1, 1, 5), timer(1, 2, 6), timer(1, 3, 7), timer(1, 4, 8))
	told, _ := w.Advance(6)
	kept := slices.Clone(told)
	set(t, w, 1, 1, 7, api.OK)
	set(t, w, 1, 2, 6, api.OK)
	more, _ := w.Advance(7)
	if !slices.Equal(told, kept) || !slices.Equal(more, []wheel.Timer{timer(1, 2, 6), timer(1, 1, 7), timer(1, 3, 7)}) {
		t.Fatalf("Advance: %v %v", told, more)
	}
	for i := range told {
		told[i] = timer(9, 9, 9)
	}
	told = append(told, timer(8, 8, 8))
	more = append(more[:0], timer(7, 7, 7))
	count(t, w, 1)
	next(t, w, timer(1, 4, 8))
	advance(t, w, 1000, timer(1, 4, 8))
	if told[2] != timer(8, 8, 8) || more[0] != timer(7, 7, 7) {
		t.Error("what was told is the wheel's")
	}
}

// scattered are timers at times up to a span behind a start.
func scattered(random *rand.Rand, start, span int64) []wheel.Timer {
	names := random.Perm(api.MaxTimers * 2)
	var out []wheel.Timer
	for _, n := range names[:1+random.IntN(api.MaxTimers)] {
		out = append(out, timer(n/4, n%4, start+random.Int64N(span)))
	}
	return out
}

// P21.3, P21.4: time that goes on in whatever steps, by nothing, by one, or by very much: the same timers come, each once, in one order, each in the step that reaches it.
func TestSteps(t *testing.T) {
	random := rand.New(rand.NewPCG(21, 4))
	for range 300 {
		start := random.Int64N(40000)
		span := []int64{1, 3, 300, 5000, 40000, 1 << 22, 1 << 39}[random.IntN(7)]
		all := scattered(random, start, span)
		want := ordered(all)
		w := fresh(t, start)
		setAll(t, w, all...)
		advance(t, w, start+span, want...)
		for _, step := range []int64{1, span / 7, span/3 + 1, span} {
			if step < 1 || span/step > 6000 {
				continue
			}
			v := fresh(t, start)
			setAll(t, v, all...)
			left := want
			for at := start; at < start+span; {
				if random.IntN(3) > 0 {
					at = min(at+step, start+span)
				}
				due := slices.IndexFunc(left, func(x wheel.Timer) bool { return x.At > at })
				if due < 0 {
					due = len(left)
				}
				advance(t, v, at, left[:due]...)
				left = left[due:]
				count(t, v, len(left))
			}
			if len(left) != 0 {
				t.Fatalf("%d timers did not come", len(left))
			}
			noNext(t, v)
		}
	}
}

// P21.2: by very much at once, as far as times go, at once.
func TestVeryMuch(t *testing.T) {
	w := fresh(t, 0)
	advance(t, w, api.MaxTime)
	set(t, w, 0, 0, api.MaxTime, api.OK)
	advance(t, w, api.MaxTime, timer(0, 0, api.MaxTime))
	v := fresh(t, 0)
	set(t, v, 0, 0, api.MaxTime, api.OK)
	set(t, v, 0, 1, 0, api.OK)
	set(t, v, 0, 2, api.MaxTime-1, api.OK)
	advance(t, v, 0, timer(0, 1, 0))
	advance(t, v, api.MaxTime-2)
	next(t, v, timer(0, 2, api.MaxTime-1))
	advance(t, v, api.MaxTime, timer(0, 2, api.MaxTime-1), timer(0, 0, api.MaxTime))
}

// model is a wheel that goes through all its timers each time.
type model struct {
	now int64
	all []wheel.Timer
}

func (m *model) find(owner, kind int) int {
	return slices.IndexFunc(m.all, func(x wheel.Timer) bool { return x.Owner == owner && x.Kind == kind })
}

func (m *model) clear(owner, kind int) bool {
	i := m.find(owner, kind)
	if i >= 0 {
		m.all = slices.Delete(m.all, i, i+1)
	}
	return i >= 0
}

func (m *model) set(owner, kind int, at int64) api.Errno {
	if owner < 0 || kind < 0 || at < m.now || at > api.MaxTime {
		return api.ErrArg
	}
	if m.find(owner, kind) < 0 && len(m.all) == api.MaxTimers {
		return api.ErrFull
	}
	m.clear(owner, kind)
	m.all = append(m.all, timer(owner, kind, at))
	return api.OK
}

func (m *model) clearAll(owner int) int {
	before := len(m.all)
	m.all = slices.DeleteFunc(m.all, func(x wheel.Timer) bool { return x.Owner == owner })
	return before - len(m.all)
}

func (m *model) advance(to int64) []wheel.Timer {
	m.now = to
	late := func(x wheel.Timer) bool { return x.At > to }
	due := slices.DeleteFunc(ordered(m.all), late)
	m.all = slices.DeleteFunc(m.all, func(x wheel.Timer) bool { return !late(x) })
	return due
}

// P21.1 to P21.4: all calls in whatever order, held against a model.
func TestModel(t *testing.T) {
	for seed := range uint64(60) {
		random := rand.New(rand.NewPCG(21, seed))
		start := []int64{0, 200, 16380, api.MaxTime - 1<<24}[seed%4]
		owners := []int{3, 9, 30}[seed%3]
		w, m := fresh(t, start), &model{now: start}
		span := func() int64 { return random.Int64N(1 << (1 + random.IntN(22))) }
		for range 1500 {
			owner, kind := random.IntN(owners+1)-random.IntN(2), random.IntN(5)-random.IntN(2)
			switch random.IntN(10) {
			case 0:
				clears(t, w, owner, kind, m.clear(owner, kind))
			case 1:
				if random.IntN(8) == 0 {
					clearsAll(t, w, owner, m.clearAll(owner))
				}
			case 2:
				if to := m.now + span()/16; to <= api.MaxTime {
					advance(t, w, to, m.advance(to)...)
				}
			case 3:
				to := m.now - 1 - span()
				noAdvance(t, w, to, api.ErrArg)
				set(t, w, owner, kind, to, m.set(owner, kind, to))
			default:
				at := m.now + span()
				set(t, w, owner, kind, at, m.set(owner, kind, at))
			}
			count(t, w, len(m.all))
			now(t, w, m.now)
			if len(m.all) == 0 {
				noNext(t, w)
			} else {
				next(t, w, ordered(m.all)[0])
			}
			if i := m.find(owner, kind); i < 0 {
				lacks(t, w, owner, kind)
			} else {
				has(t, w, owner, kind, m.all[i].At)
			}
		}
		advance(t, w, api.MaxTime, m.advance(api.MaxTime)...)
		count(t, w, 0)
	}
}
