package feed_test

import (
	"math"
	"math/rand/v2"
	"slices"
	"testing"

	"adit/api"
	"adit/feed"
	"adit/vstore"
)

// event is the event of a number, unlike for each.
func event(n int) vstore.Event {
	return vstore.Event{Kind: 1 + n%3, Key: api.Key{0: byte(n), 1: byte(n >> 8), 31: byte(7 * n)}, Version: uint64(n) + 1}
}

// events are those of numbers from one on up to another one.
func events(from, to int) []vstore.Event {
	var out []vstore.Event
	for n := from; n < to; n++ {
		out = append(out, event(n))
	}
	return out
}

// items are the items of numbers from one on up to another one.
func items(from, to int) []feed.Item {
	var out []feed.Item
	for n := from; n < to; n++ {
		out = append(out, feed.Item{Event: event(n)})
	}
	return out
}

// gap is a gap of so many events.
func gap(n uint64) feed.Item { return feed.Item{Lost: n} }

// row is rows of items as one.
func row(parts ...[]feed.Item) []feed.Item { return slices.Concat(parts...) }

// gaps is a row of one gap.
func gaps(n uint64) []feed.Item { return []feed.Item{gap(n)} }

// wrongCounts are numbers below 1.
func wrongCounts() []int { return []int{0, -1, -2, -16, -17, math.MinInt, math.MinInt + 1} }

// watch makes a watcher, and holds its number.
func watch(t *testing.T, f *feed.Feed, want uint64) {
	t.Helper()
	if id, e := f.Watch(); id != want || e != api.OK {
		t.Fatalf("Watch: %d %v, want %d", id, e, want)
	}
	waits(t, f, want, 0)
}

// noWatch holds that there are as many watchers as may be.
func noWatch(t *testing.T, f *feed.Feed) {
	t.Helper()
	if id, e := f.Watch(); id != 0 || e != api.ErrFull {
		t.Fatalf("Watch: %d %v, want %v", id, e, api.ErrFull)
	}
}

// leave holds what Leave answers.
func leave(t *testing.T, f *feed.Feed, id uint64, want bool) {
	t.Helper()
	if got := f.Leave(id); got != want {
		t.Fatalf("Leave(%d): %v", id, got)
	}
}

// take holds which items are taken, and that Waits counted them.
func take(t *testing.T, f *feed.Feed, id uint64, n int, want ...feed.Item) {
	t.Helper()
	before := f.Waits(id)
	l, e := f.Take(id, n)
	if e != api.OK || !slices.Equal(l, want) || cap(l) != len(l) {
		t.Fatalf("Take(%d, %d): %v %v, want %v", id, n, l, e, want)
	}
	waits(t, f, id, before-len(l))
}

// noTake holds that there is no such watcher.
func noTake(t *testing.T, f *feed.Feed, id uint64, want api.Errno) {
	t.Helper()
	for _, n := range append(wrongCounts(), 1, 2, 16, 17, math.MaxInt) {
		if l, e := f.Take(id, n); len(l) != 0 || e != want {
			t.Fatalf("Take(%d, %d): %v %v, want %v", id, n, l, e, want)
		}
	}
	waits(t, f, id, 0)
}

// waits holds how many items a watcher could take.
func waits(t *testing.T, f *feed.Feed, id uint64, want int) {
	t.Helper()
	if got := f.Waits(id); got != want {
		t.Fatalf("Waits(%d): %d, want %d", id, got, want)
	}
}

// watchers holds who watches.
func watchers(t *testing.T, f *feed.Feed, want ...uint64) {
	t.Helper()
	if got := f.Watchers(); !slices.Equal(got, want) || cap(got) != len(got) {
		t.Fatalf("Watchers: %v, want %v", got, want)
	}
}

// lone is a feed with one watcher, 1.
func lone(t *testing.T) *feed.Feed {
	t.Helper()
	f := feed.New()
	watch(t, f, 1)
	return f
}

// The chapter's example.
func TestExample(t *testing.T) {
	f := lone(t)
	f.Push(events(0, 18))
	take(t, f, 1, 17, row(items(0, 16), gaps(2))...)
}

// P25.1: a feed that is new has no watchers.
func TestNew(t *testing.T) {
	f := feed.New()
	watchers(t, f)
	f.Push(events(0, 20))
	for _, id := range []uint64{0, 1, 2, math.MaxUint64} {
		noTake(t, f, id, api.ErrNone)
		leave(t, f, id, false)
	}
	watchers(t, f)
	watch(t, f, 1)
	watchers(t, f, 1)
	take(t, f, 1, 99)
}

// P25.1: feeds do not touch each other.
func TestFeeds(t *testing.T) {
	a, b := lone(t), feed.New()
	watchers(t, b)
	a.Push(events(0, 5))
	watch(t, b, 1)
	b.Push(events(7, 9))
	watch(t, b, 2)
	leave(t, b, 2, true)
	watchers(t, a, 1)
	watch(t, a, 2)
	take(t, a, 1, 99, items(0, 5)...)
	take(t, b, 1, 99, items(7, 9)...)
}

// P25.1: feeds that are nil, or that no call made.
func TestNil(t *testing.T) {
	for _, f := range []*feed.Feed{nil, {}, new(feed.Feed)} {
		for range 2 {
			if id, e := f.Watch(); id != 0 || e != api.ErrNil {
				t.Errorf("Watch: %d %v", id, e)
			}
			f.Push(nil)
			f.Push(events(0, 20))
			for _, id := range []uint64{0, 1, 2, math.MaxUint64} {
				noTake(t, f, id, api.ErrNil)
				leave(t, f, id, false)
			}
			if l := f.Watchers(); len(l) != 0 {
				t.Errorf("Watchers: %v", l)
			}
		}
	}
}

// P1: a feed that is copied by its value ends each call, as the one that it is a copy of does.
func TestCopied(t *testing.T) {
	f := lone(t)
	f.Push(events(0, 20))
	c := *f
	for range 2 * api.MaxSessions {
		c.Watch()
		f.Watch()
		c.Push(events(0, 20))
		f.Push(events(0, 20))
	}
	for id := range uint64(4 * api.MaxSessions) {
		f.Take(id, 3)
		c.Take(id, 99)
		f.Waits(id)
		c.Leave(id)
		f.Leave(id)
	}
	f.Watchers()
	c.Watchers()
}

// P25.1: MaxSessions watchers, and one more.
func TestWatch(t *testing.T) {
	f := feed.New()
	var all []uint64
	for id := uint64(1); id <= api.MaxSessions; id++ {
		watch(t, f, id)
		all = append(all, id)
		watchers(t, f, all...)
	}
	for range 3 {
		noWatch(t, f)
		watchers(t, f, all...)
	}
	f.Push(events(0, 3))
	noWatch(t, f)
	for _, id := range all {
		take(t, f, id, 99, items(0, 3)...)
	}
	for _, id := range []uint64{0, 9, 10, math.MaxUint64} {
		noTake(t, f, id, api.ErrNone)
		leave(t, f, id, false)
	}
}

// P25.1: who is refused has no number, and who leaves has none any more: the next one's is one more than the last one's.
func TestWatchNumbers(t *testing.T) {
	f := feed.New()
	for id := uint64(1); id <= api.MaxSessions; id++ {
		watch(t, f, id)
	}
	noWatch(t, f)
	noWatch(t, f)
	leave(t, f, 3, true)
	watchers(t, f, 1, 2, 4, 5, 6, 7, 8)
	watch(t, f, 9)
	watchers(t, f, 1, 2, 4, 5, 6, 7, 8, 9)
	noWatch(t, f)
	leave(t, f, 9, true)
	leave(t, f, 1, true)
	watch(t, f, 10)
	watch(t, f, 11)
	noWatch(t, f)
	watchers(t, f, 2, 4, 5, 6, 7, 8, 10, 11)
	for _, id := range f.Watchers() {
		leave(t, f, id, true)
	}
	watchers(t, f)
	for id := uint64(12); id < 300; id++ {
		watch(t, f, id)
		watchers(t, f, id)
		leave(t, f, id, true)
	}
}

// P25.1: who left is no watcher any more; who comes behind has a row of their own, which is empty.
func TestLeave(t *testing.T) {
	f := lone(t)
	watch(t, f, 2)
	f.Push(events(0, 20))
	leave(t, f, 1, true)
	for range 2 {
		leave(t, f, 1, false)
		noTake(t, f, 1, api.ErrNone)
		watchers(t, f, 2)
	}
	watch(t, f, 3)
	take(t, f, 3, 99)
	noTake(t, f, 1, api.ErrNone)
	leave(t, f, 1, false)
	watchers(t, f, 2, 3)
	f.Push(events(20, 21))
	noTake(t, f, 1, api.ErrNone)
	take(t, f, 3, 99, items(20, 21)...)
	take(t, f, 2, 99, row(items(0, 16), gaps(5))...)
	for _, id := range []uint64{0, 4, 1 << 32, 1<<32 + 2, math.MaxUint64} {
		leave(t, f, id, false)
	}
	leave(t, f, 3, true)
	leave(t, f, 2, true)
	watchers(t, f)
	f.Push(events(21, 22))
	noTake(t, f, 2, api.ErrNone)
}

// P25.1: each event, in order, to each watcher, whatever it is, at once or one by one.
func TestPush(t *testing.T) {
	l := append(events(0, 3), vstore.Event{}, vstore.Event{Kind: -1}, vstore.Event{Kind: 9, Version: math.MaxUint64}, event(2), event(2), vstore.Event{Key: api.Key{31: 1}})
	var want []feed.Item
	for _, e := range l {
		want = append(want, feed.Item{Event: e})
	}
	f := feed.New()
	for id := uint64(1); id <= api.MaxSessions; id++ {
		watch(t, f, id)
	}
	f.Push(l)
	for _, id := range f.Watchers() {
		take(t, f, id, len(l), want...)
		take(t, f, id, 99)
	}
	f.Push(nil)
	f.Push([]vstore.Event{})
	f.Push(l[:0])
	for _, e := range l {
		f.Push([]vstore.Event{e})
		f.Push(nil)
	}
	for _, id := range f.Watchers() {
		take(t, f, id, 99, want...)
	}
}

// P25.1: MaxEvents items in a row, one more, and two more, pushed at once or one by one.
func TestPushFull(t *testing.T) {
	for n := range 60 {
		for _, single := range []bool{false, true} {
			f := lone(t)
			for i := range n {
				if single {
					f.Push(events(i, i+1))
				}
			}
			if !single {
				f.Push(events(0, n))
			}
			want := items(0, min(n, api.MaxEvents))
			if n > api.MaxEvents {
				want = append(want, gap(uint64(n-api.MaxEvents)))
			}
			waits(t, f, 1, len(want))
			take(t, f, 1, math.MaxInt, want...)
			take(t, f, 1, math.MaxInt)
			f.Push(events(n, n+1))
			take(t, f, 1, 99, items(n, n+1)...)
		}
	}
}

// P25.1: where events were left out, a gap and an event need room for two.
func TestPushBehindGap(t *testing.T) {
	f := lone(t)
	f.Push(events(0, 18))
	take(t, f, 1, 1, items(0, 1)...)
	waits(t, f, 1, 16)
	f.Push(events(18, 19))
	waits(t, f, 1, 16)
	f.Push(events(19, 20))
	take(t, f, 1, 1, items(1, 2)...)
	waits(t, f, 1, 15)
	f.Push(events(20, 21))
	waits(t, f, 1, 16)
	f.Push(events(21, 22))
	waits(t, f, 1, 17)
	take(t, f, 1, 99, row(items(2, 16), gaps(4), items(20, 21), gaps(1))...)
	f.Push(events(22, 23))
	take(t, f, 1, 99, items(22, 23)...)
}

// P25.1: room for two, as much as there is, and gaps that are items of the row, too.
func TestPushGaps(t *testing.T) {
	f := lone(t)
	f.Push(events(0, 17))
	take(t, f, 1, 2, items(0, 2)...)
	f.Push(events(17, 19))
	take(t, f, 1, 2, items(2, 4)...)
	f.Push(events(19, 22))
	take(t, f, 1, 2, items(4, 6)...)
	f.Push(events(22, 23))
	waits(t, f, 1, 16)
	take(t, f, 1, 16, row(items(6, 16), gaps(1), items(17, 18), gaps(1), items(19, 20), gaps(2), items(22, 23))...)
	take(t, f, 1, 99)

	f.Push(events(0, 16))
	f.Push(events(16, 17))
	take(t, f, 1, 16, items(0, 16)...)
	waits(t, f, 1, 1)
	f.Push(events(17, 33))
	waits(t, f, 1, 17)
	take(t, f, 1, 16, row(gaps(1), items(17, 32))...)
	take(t, f, 1, 99, gap(1))
}

// P25.2: Take of each number of items, of rows of each length, with and without events left out.
func TestTake(t *testing.T) {
	for pushed := range 24 {
		for _, n := range append(wrongCounts(), 1, 2, 3, 4, 5, 6, 7, 8, 9, 10, 11, 12, 13, 14, 15, 16, 17, 18, 19, 32, 33, 1<<31, 1<<32, math.MaxInt-1, math.MaxInt) {
			f := lone(t)
			f.Push(events(0, pushed))
			size := min(pushed, api.MaxEvents)
			count := min(max(n, 0), size)
			rest := items(count, size)
			want := items(0, count)
			if lost := uint64(pushed - size); lost > 0 && count < n {
				want = append(want, gap(lost))
			} else if lost > 0 {
				rest = append(rest, gap(lost))
			}
			take(t, f, 1, n, want...)
			take(t, f, 1, math.MaxInt, rest...)
			take(t, f, 1, math.MaxInt)
		}
	}
}

// P25.2: items are gone once they are taken, however few at once.
func TestTakeByParts(t *testing.T) {
	for size := 1; size <= 20; size++ {
		f := lone(t)
		f.Push(events(0, 19))
		all := row(items(0, 16), gaps(3))
		for len(all) > 0 {
			for _, n := range wrongCounts() {
				take(t, f, 1, n)
			}
			n := min(size, len(all))
			take(t, f, 1, size, all[:n]...)
			all = all[n:]
		}
		take(t, f, 1, size)
	}
}

// P25.2: a gap behind just as many items as are asked for stays; the next item stands behind it.
func TestTakeJust(t *testing.T) {
	f := lone(t)
	f.Push(events(0, 19))
	take(t, f, 1, 16, items(0, 16)...)
	waits(t, f, 1, 1)
	take(t, f, 1, 0)
	take(t, f, 1, -1)
	take(t, f, 1, 1, gap(3))
	take(t, f, 1, 1)

	f.Push(events(0, 19))
	take(t, f, 1, 16, items(0, 16)...)
	f.Push(events(19, 20))
	waits(t, f, 1, 2)
	take(t, f, 1, 1, gap(3))
	take(t, f, 1, 1, items(19, 20)...)
	take(t, f, 1, 1)
}

// P25.2: Watchers rise, whoever came and left.
func TestWatchers(t *testing.T) {
	r := rand.New(rand.NewPCG(25, 2))
	f := feed.New()
	var all []uint64
	last := uint64(0)
	for range 5000 {
		if r.IntN(2) == 0 && len(all) < api.MaxSessions {
			last++
			watch(t, f, last)
			all = append(all, last)
		} else if len(all) > 0 {
			i := r.IntN(len(all))
			leave(t, f, all[i], true)
			all = slices.Delete(all, i, i+1)
		}
		watchers(t, f, all...)
	}
}

// Rule 5: what is handed in is not changed and not kept; what lies behind it is not read.
func TestPushMemory(t *testing.T) {
	f := lone(t)
	l := events(0, 5)[:3]
	f.Push(l)
	if !slices.Equal(l[:5], events(0, 5)) {
		t.Errorf("changed: %v", l)
	}
	clear(l[:5])
	take(t, f, 1, 99, items(0, 3)...)
}

// Rule 5: what is handed out is new memory, which does not touch what stays, nor what is handed out behind it.
func TestTakeMemory(t *testing.T) {
	f := lone(t)
	watch(t, f, 2)
	f.Push(events(0, 18))
	var all [][]feed.Item
	at := 0
	for i, n := range []int{3, 1, 5, 4, 2} {
		l, _ := f.Take(1, n)
		if !slices.Equal(l, items(at, at+n)) {
			t.Fatalf("Take: %v", l)
		}
		f.Push(events(100+i, 101+i))
		_ = append(l, gap(99))
		for i := range l {
			l[i] = gap(uint64(at))
		}
		all = append(all, l)
		at += n
	}
	for i, n := range []uint64{0, 3, 4, 9, 13} {
		for _, x := range all[i] {
			if x != gap(n) {
				t.Errorf("what was taken has changed: %v", x)
			}
		}
	}
	take(t, f, 1, 99, row(items(15, 16), gaps(2), items(100, 105))...)
	take(t, f, 2, 99, row(items(0, 16), gaps(7))...)
	ids := f.Watchers()
	ids[0], ids[1] = 9, 9
	watchers(t, f, 1, 2)
}

// model is a watcher as the chapter tells it: all its events, of which some were left out.
type model struct {
	row  []feed.Item
	lost uint64
}

// push pushes an event to the model.
func (m *model) push(e vstore.Event) {
	room := api.MaxEvents - len(m.row)
	switch {
	case m.lost > 0 && room >= 2:
		m.row = append(m.row, gap(m.lost), feed.Item{Event: e})
		m.lost = 0
	case m.lost == 0 && room >= 1:
		m.row = append(m.row, feed.Item{Event: e})
	default:
		m.lost++
	}
}

// take takes items of the model.
func (m *model) take(n int) []feed.Item {
	var out []feed.Item
	for len(out) < n && len(m.row) > 0 {
		out = append(out, m.row[0])
		m.row = m.row[1:]
	}
	if len(out) < n && m.lost > 0 {
		out = append(out, gap(m.lost))
		m.lost = 0
	}
	return out
}

// heard is what a watcher was told, and what was pushed since it came.
type heard struct {
	model
	alone  *feed.Feed // with this watcher alone
	pushed []vstore.Event
	told   []feed.Item
}

// unsaid holds that what was told are the events that were pushed, in order, each once, or in a gap that counts just those between.
func (h heard) unsaid(t *testing.T) {
	t.Helper()
	at := 0
	for i, x := range h.told {
		if x.Lost > 0 {
			if x.Event != (vstore.Event{}) || i > 0 && h.told[i-1].Lost > 0 {
				t.Fatalf("gap %v behind %v", x, h.told[:i])
			}
			at += int(x.Lost)
			continue
		}
		if at >= len(h.pushed) || x.Event != h.pushed[at] {
			t.Fatalf("item %d: %v, which is not event %d", i, x, at)
		}
		at++
	}
	if at != len(h.pushed) {
		t.Fatalf("%d of %d events are told", at, len(h.pushed))
	}
}

// P25.3 and P25.4: feeds against models, and each watcher against one that has a feed of its own.
func TestUnsaid(t *testing.T) {
	for seed := range uint64(40) {
		r := rand.New(rand.NewPCG(25, seed))
		f := feed.New()
		all := map[uint64]*heard{}
		n := 0
		for range 600 {
			switch k := r.IntN(20); {
			case k == 0:
				id, e := f.Watch()
				if want := len(all) == api.MaxSessions; e == api.ErrFull != want || all[id] != nil {
					t.Fatalf("Watch: %d %v beside %d", id, e, len(all))
				}
				if e == api.OK {
					all[id] = &heard{alone: lone(t)}
				}
			case k == 1 && len(all) > 4:
				id := f.Watchers()[r.IntN(len(all))]
				part(t, f, id, all[id])
				leave(t, f, id, true)
				delete(all, id)
			case k < 10:
				to := n + r.IntN(1+r.IntN(24))
				f.Push(events(n, to))
				for _, h := range all {
					h.alone.Push(events(n, to))
					for _, e := range events(n, to) {
						h.push(e)
					}
					h.pushed = append(h.pushed, events(n, to)...)
				}
				n = to
			case len(all) > 0:
				id := f.Watchers()[r.IntN(len(all))]
				some(t, f, id, all[id], r.IntN(20)-1)
			}
			if len(f.Watchers()) != len(all) {
				t.Fatalf("Watchers: %v beside %d", f.Watchers(), len(all))
			}
			for id, h := range all {
				want := len(h.row)
				if h.lost > 0 {
					want++
				}
				waits(t, f, id, want)
			}
		}
		for id, h := range all {
			part(t, f, id, h)
		}
	}
}

// some takes items, and holds that they are those of the model, and those of a feed with that watcher alone.
func some(t *testing.T, f *feed.Feed, id uint64, h *heard, n int) {
	t.Helper()
	want := h.take(n)
	take(t, f, id, n, want...)
	take(t, h.alone, 1, n, want...)
	h.told = append(h.told, want...)
}

// part takes all items, and holds that nothing is unsaid.
func part(t *testing.T, f *feed.Feed, id uint64, h *heard) {
	t.Helper()
	some(t, f, id, h, math.MaxInt)
	h.unsaid(t)
}

// P25.4: who takes, watches, leaves or loses events does not touch another one.
func TestApart(t *testing.T) {
	f := lone(t)
	f.Push(events(0, 2))
	watch(t, f, 2)
	f.Push(events(2, 4))
	watch(t, f, 3)
	f.Push(events(4, 18))
	take(t, f, 2, 5, items(2, 7)...)
	waits(t, f, 1, 17)
	waits(t, f, 2, 11)
	waits(t, f, 3, 14)
	leave(t, f, 2, true)
	waits(t, f, 1, 17)
	waits(t, f, 3, 14)
	f.Push(events(18, 20))
	watch(t, f, 4)
	f.Push(events(20, 21))
	take(t, f, 1, 99, row(items(0, 16), gaps(5))...)
	take(t, f, 3, 99, row(items(4, 20), gaps(1))...)
	take(t, f, 4, 99, items(20, 21)...)
}

// P25.5: who takes often enough loses nothing, whatever another one does not take.
func TestOften(t *testing.T) {
	for each := 1; each <= api.MaxEvents; each++ {
		f := lone(t)
		watch(t, f, 2)
		watch(t, f, 3)
		at := 0
		for n := 0; n < 400; n += each {
			f.Push(events(n, n+each))
			take(t, f, 2, each, items(n, n+each)...)
			if n+each-at > api.MaxEvents-each {
				take(t, f, 3, math.MaxInt, items(at, n+each)...)
				at = n + each
			}
		}
		waits(t, f, 1, 17)
	}
}

// P1: many events at once, and many lost.
func TestMany(t *testing.T) {
	const all = 1 << 18
	f := lone(t)
	l := make([]vstore.Event, all)
	f.Push(l)
	f.Push(l)
	waits(t, f, 1, 17)
	if got, e := f.Take(1, 16); len(got) != 16 || e != api.OK {
		t.Errorf("Take: %d %v", len(got), e)
	}
	take(t, f, 1, 2, gap(2*all-16))
	take(t, f, 1, 2)
}
