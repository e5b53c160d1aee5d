package window_test

import (
	"maps"
	"math"
	"math/rand/v2"
	"slices"
	"testing"

	"adit/api"
	"adit/window"
)

// last is the greatest number that is not spent.
const last = uint64(api.RejectMessages - 1)

// model is what was taken: every number, whatever a window knows of it.
type model struct {
	taken    map[uint64]bool
	greatest uint64
}

// late tells whether a number is too far below the greatest one.
func (m model) late(n uint64) bool {
	return len(m.taken) > 0 && n < m.greatest && m.greatest-n >= api.MaxWindow
}

// check is what a window that took the same answers.
func (m model) check(n uint64) api.Errno {
	if n >= api.RejectMessages {
		return api.ErrSpent
	}
	if m.taken[n] || m.late(n) {
		return api.ErrReplay
	}
	return api.OK
}

// with is a model that took a number, too.
func (m model) with(n uint64) model {
	out := model{taken: map[uint64]bool{n: true}, greatest: max(m.greatest, n)}
	for k := range m.taken {
		out.taken[k] = true
	}
	return out
}

// next is the greatest number and 1.
func (m model) next() uint64 {
	if len(m.taken) == 0 {
		return 0
	}
	return m.greatest + 1
}

// near are numbers that may be told wrong: those about the greatest one, the edges of words, and what is far away.
func (m model) near() []uint64 {
	out := edges()
	for d := range uint64(300) {
		if m.greatest >= d {
			out = append(out, m.greatest-d)
		}
		if m.greatest <= math.MaxUint64-d {
			out = append(out, m.greatest+d)
		}
	}
	for k := range m.taken {
		out = append(out, k)
	}
	return out
}

// edges are numbers at the edges of their type, and of what is spent.
func edges() []uint64 {
	out := []uint64{0, 1, 2, 62, 63, 64, 65, 126, 127, 128, 129, 130, 191, 192, 193, 255, 256, 257, 1000}
	for _, n := range []uint64{1 << 16, 1 << 31, 1 << 32, 1 << 60, 1 << 62, 1 << 63, last} {
		for d := range uint64(3) {
			out = append(out, n-1+d)
		}
	}
	return append(out, last-127, last-128, last-129, last+3, math.MaxUint64-1<<12, math.MaxUint64-128, math.MaxUint64-127, math.MaxUint64-1, math.MaxUint64)
}

// same holds that a window tells what a model tells.
func same(t *testing.T, w window.Window, m model) {
	t.Helper()
	if got := w.Next(); got != m.next() {
		t.Fatalf("Next: %d, want %d", got, m.next())
	}
	for _, n := range m.near() {
		if got, want := w.Check(n), m.check(n); got != want {
			t.Fatalf("greatest %d: Check(%d): %v, want %v", m.greatest, n, got, want)
		}
		if got, want := w.Has(n), m.taken[n] && !m.late(n); got != want {
			t.Fatalf("greatest %d: Has(%d): %v, want %v", m.greatest, n, got, want)
		}
	}
}

// take is a window with a number that it may take.
func take(t *testing.T, w window.Window, n uint64) window.Window {
	t.Helper()
	out, e := w.Take(n)
	if e != api.OK {
		t.Fatalf("Take(%d): %v", n, e)
	}
	return out
}

// refused holds that a window does not take a number, and stays as it was.
func refused(t *testing.T, w window.Window, n uint64, want api.Errno) {
	t.Helper()
	if e := w.Check(n); e != want {
		t.Errorf("Check(%d): %v, want %v", n, e, want)
	}
	if out, e := w.Take(n); out != w || e != want {
		t.Errorf("Take(%d): %v %v, want %v %v", n, out, e, w, want)
	}
}

// of is a window that took numbers, and a model that did.
func of(t *testing.T, all ...uint64) (window.Window, model) {
	t.Helper()
	var w window.Window
	var m model
	for _, n := range all {
		w, m = take(t, w, n), m.with(n)
	}
	return w, m
}

// The chapter's examples.
func TestExamples(t *testing.T) {
	w, _ := of(t, 5)
	refused(t, w, 5, api.ErrReplay)
	w = take(t, w, 4)
	w = take(t, w, 200)
	refused(t, w, 72, api.ErrReplay)
	take(t, w, 73)
}

// P15.1, P15.2: a window that took nothing.
func TestEmpty(t *testing.T) {
	var w window.Window
	same(t, w, model{})
	for _, n := range edges() {
		if w.Has(n) {
			t.Errorf("nothing was taken: Has(%d)", n)
		}
		if n >= api.RejectMessages {
			refused(t, w, n, api.ErrSpent)
			continue
		}
		x := take(t, w, n)
		if x == w || x.Next() != n+1 || !x.Has(n) || w != (window.Window{}) {
			t.Errorf("Take(%d): %v", n, x)
		}
		same(t, x, model{}.with(n))
	}
}

// P15.1, P15.2: 0 is a number as each other one.
func TestZero(t *testing.T) {
	w, m := of(t, 0)
	if w == (window.Window{}) || w.Next() != 1 || !w.Has(0) || w.Has(1) || w.Has(math.MaxUint64) {
		t.Errorf("behind 0: %v", w)
	}
	refused(t, w, 0, api.ErrReplay)
	same(t, w, m)
	for greatest := range uint64(140) {
		w, m := of(t, greatest+1)
		if greatest+1 >= api.MaxWindow {
			refused(t, w, 0, api.ErrReplay)
			continue
		}
		same(t, take(t, w, 0), m.with(0))
	}
}

// P15.1, P15.3: a number that comes twice is refused, at once and later.
func TestTwice(t *testing.T) {
	for _, n := range edges() {
		if n >= api.RejectMessages {
			continue
		}
		w, _ := of(t, n)
		refused(t, w, n, api.ErrReplay)
		for _, step := range []uint64{1, 2, 63, 64, 65, 127, 128, 129, 1000} {
			if last-step >= n {
				x := take(t, w, n+step)
				refused(t, x, n, api.ErrReplay)
				refused(t, x, n+step, api.ErrReplay)
				if x.Has(n) != (step < api.MaxWindow) {
					t.Errorf("Has(%d) behind %d: %v", n, n+step, x.Has(n))
				}
			}
		}
	}
}

// P15.1, P15.4: each number less than MaxWindow below the greatest one is taken once, and none farther below.
func TestBelow(t *testing.T) {
	for _, greatest := range []uint64{126, 127, 128, 129, 200, 255, 1000, 1<<32 + 5, 1 << 63, 1<<63 + 64, last - 1, last} {
		one, _ := of(t, greatest)
		all, m := of(t, greatest)
		for d := uint64(1); d < 400 && d <= greatest; d++ {
			n := greatest - d
			if d >= api.MaxWindow {
				refused(t, one, n, api.ErrReplay)
				refused(t, all, n, api.ErrReplay)
				continue
			}
			x := take(t, one, n)
			if x.Next() != greatest+1 || !x.Has(n) || !x.Has(greatest) {
				t.Errorf("%d below %d: %v", n, greatest, x)
			}
			all, m = take(t, all, n), m.with(n)
		}
		same(t, all, m)
		for _, far := range []uint64{1 << 9, 1 << 20, 1 << 33, 1 << 62, greatest / 2, greatest} {
			if far >= api.MaxWindow && far <= greatest {
				refused(t, all, greatest-far, api.ErrReplay)
			}
		}
	}
}

// P15.1, P15.2: whatever the step to a greater number, what is known is known behind it, and what is not is not.
func TestSteps(t *testing.T) {
	var full, odd, ends []uint64
	for n := range uint64(api.MaxWindow) {
		full = append(full, 1000+n)
		if n%3 == 1 || n == api.MaxWindow-1 {
			odd = append(odd, 1000+n)
		}
	}
	ends = []uint64{1000, 1063, 1064, 1127}
	steps := []uint64{1 << 10, 1<<16 + 64, 1 << 32, 1<<32 + 1, 1 << 62, 1 << 63, 1<<63 + 128, last - 1127}
	for step := range uint64(260) {
		steps = append(steps, step+1)
	}
	for _, before := range [][]uint64{full, odd, ends, {1127}, {1126, 1127}, {1000, 1127}} {
		w, m := of(t, before...)
		for _, step := range steps {
			x := take(t, w, 1127+step)
			same(t, x, m.with(1127+step))
			if step >= api.MaxWindow {
				only, _ := of(t, 1127+step)
				if x != only {
					t.Errorf("a step of %d: %v, want %v", step, x, only)
				}
			}
		}
	}
}

// P15.1, P15.5: RejectMessages and more are spent, ahead of all else.
func TestSpent(t *testing.T) {
	empty := window.Window{}
	few, _ := of(t, 0, 5, 200)
	high, m := of(t, last)
	most, _ := of(t, last-1)
	for _, n := range []uint64{api.RejectMessages, last + 2, last + 127, last + 128, last + 129, last + 1<<12, math.MaxUint64 - 1, math.MaxUint64} {
		for _, w := range []window.Window{empty, few, high, most} {
			refused(t, w, n, api.ErrSpent)
			if w.Has(n) {
				t.Errorf("Has(%d), which is spent", n)
			}
		}
	}
	if high.Next() != api.RejectMessages {
		t.Errorf("Next: %d", high.Next())
	}
	refused(t, high, last, api.ErrReplay)
	refused(t, high, last-128, api.ErrReplay)
	refused(t, high, 0, api.ErrReplay)
	same(t, high, m)
	for _, n := range []uint64{last - 1, last - 127} {
		same(t, take(t, high, n), m.with(n))
	}
	if x := take(t, most, last); x != take(t, high, last-1) {
		t.Errorf("%v", x)
	}
}

// P15.5: what was refused changes nothing, and what was taken does not change the window that it was asked of.
func TestValues(t *testing.T) {
	w, m := of(t, 3, 70, 130, 7)
	before := w
	for _, n := range []uint64{3, 70, 130, 2, 1, 0, api.RejectMessages, math.MaxUint64} {
		if out, e := w.Take(n); e == api.OK || out != before {
			t.Errorf("Take(%d): %v %v", n, out, e)
		}
	}
	for _, n := range []uint64{4, 69, 131, 1000, last} {
		if out := take(t, w, n); out == before || w != before {
			t.Errorf("Take(%d): %v of %v", n, out, w)
		}
	}
	same(t, w, m)
}

// Windows are held against each other by ==: those that know the same are the same, whichever way they came to it.
func TestCompared(t *testing.T) {
	for i, c := range []struct {
		a, b []uint64
		same bool
	}{
		{nil, nil, true},
		{nil, []uint64{0}, false},
		{[]uint64{0}, []uint64{1}, false},
		{[]uint64{0, 1}, []uint64{1}, false},
		{[]uint64{0, 1}, []uint64{1, 0}, true},
		{[]uint64{0, 127}, []uint64{127, 0}, true},
		{[]uint64{0, 127}, []uint64{127}, false},
		{[]uint64{0, 128}, []uint64{128}, true},
		{[]uint64{0, 64, 128}, []uint64{128, 64}, true},
		{[]uint64{0, 63, 128}, []uint64{128, 64}, false},
		{[]uint64{0, 1, 2, 3, 200}, []uint64{200}, true},
		{[]uint64{7, 5, 1 << 63}, []uint64{1 << 63}, true},
		{[]uint64{1, 129, 257}, []uint64{257}, true},
		{[]uint64{1, 129, 256}, []uint64{256, 129}, true},
		{[]uint64{1, 129, 256}, []uint64{256}, false},
		{[]uint64{last - 128, last}, []uint64{last}, true},
		{[]uint64{last - 127, last}, []uint64{last}, false},
	} {
		a, _ := of(t, c.a...)
		b, _ := of(t, c.b...)
		if (a == b) != c.same {
			t.Errorf("%d: %v and %v", i, a, b)
		}
	}
}

// P15.3, P15.4: in whatever order numbers come that are all known, each is taken, and the window is the same.
func TestOrders(t *testing.T) {
	r := rand.New(rand.NewPCG(15, 1))
	for range 200 {
		base := []uint64{0, 1, 60, 1000, 1 << 40, last - 127}[r.IntN(6)]
		var row []uint64
		for n := range uint64(api.MaxWindow) {
			if r.IntN(3) > 0 {
				row = append(row, base+n)
			}
		}
		want, m := of(t, row...)
		r.Shuffle(len(row), func(i, j int) { row[i], row[j] = row[j], row[i] })
		got, _ := of(t, row...)
		if got != want {
			t.Fatalf("%v: %v, want %v", row, got, want)
		}
		same(t, got, m)
	}
}

// P15.3: no number is taken twice, in whatever order they come.
func TestOnce(t *testing.T) {
	r := rand.New(rand.NewPCG(15, 2))
	for range 100 {
		var w window.Window
		times := map[uint64]int{}
		for range 2000 {
			n := r.Uint64N(600)
			x, e := w.Take(n)
			if e != w.Check(n) || (e == api.OK) == (x == w) {
				t.Fatalf("Take(%d): %v, Check: %v", n, e, w.Check(n))
			}
			if e == api.OK {
				times[n]++
			}
			w = x
		}
		for n, k := range times {
			if k > 1 {
				t.Fatalf("%d was taken %d times", n, k)
			}
		}
	}
}

// P15.1 to P15.5: windows beside a model that keeps every number, with steps of every size.
func TestBesideAModel(t *testing.T) {
	r := rand.New(rand.NewPCG(15, 3))
	for range 60 {
		w, m := of(t)
		top := []uint64{0, 100, 1 << 32, 1 << 63, last - 600, last}[r.IntN(6)]
		for range 120 {
			n := top
			switch r.IntN(6) {
			case 0:
				n += r.Uint64N(4)
			case 1:
				n += r.Uint64N(400)
			case 2:
				n += []uint64{63, 64, 65, 127, 128, 129}[r.IntN(6)]
			default:
				n -= min(n, r.Uint64N(140))
			}
			want := m.check(n)
			x, e := w.Take(n)
			if e != want {
				t.Fatalf("Take(%d) behind %d: %v, want %v", n, m.greatest, e, want)
			}
			if e != api.OK && x != w {
				t.Fatalf("Take(%d): %v changed %v to %v", n, e, w, x)
			}
			if e == api.OK {
				m, top = m.with(n), max(top, n)
			}
			w = x
		}
		same(t, w, m)
		known := slices.DeleteFunc(slices.Collect(maps.Keys(m.taken)), m.late)
		if again, _ := of(t, known...); again != w {
			t.Fatalf("%v: %v, want %v", known, again, w)
		}
	}
}
