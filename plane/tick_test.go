package plane_test

import (
	"math/rand/v2"
	"testing"

	"adit/api"
	"adit/plane"
)

// P29.4: Tick's errors: nothing has changed.
func TestTickErrors(t *testing.T) {
	for _, now := range []int64{0, 1, 300000, api.MaxTime - 200000, api.MaxTime - 1, api.MaxTime} {
		r := setUp(t, now, kept(2, 1))
		for _, at := range append(noTimes(), now-1, now-200000, now+200001, now+200002, now+1<<39) {
			if l, e := r.p.Tick(at); e != api.ErrArg || len(l) != 0 || r.p.Now() != now {
				t.Errorf("Tick(%d) at %d: %v %v, now %d", at, now, l, e, r.p.Now())
			}
		}
		// The timer of kind 3 is there still.
		told(t, r.tick(now), drop(1, api.ErrNone))
		r.quiet(now)
		if to := now + 200000; to <= api.MaxTime {
			if l, e := r.p.Tick(to); e != api.OK || len(l) != 200 || r.p.Now() != to {
				t.Errorf("Tick(%d) at %d: %d %v, now %d", to, now, len(l), e, r.p.Now())
			}
		}
	}
}

// P29.4: a Hello is sent again RekeyTimeout and what its draw says later, with the next draw, label and number.
func TestAgain(t *testing.T) {
	at := int64(1234)
	r := setUp(t, at, other(2))
	d := r.late(0)
	told(t, r.p.Tun(goes(t, 2, 0, 0)), hello(t, 2, d, at, 1))
	before := int64(0)
	for i, c := range []struct {
		last int
		late int64
	}{{1, 1}, {256, 256}, {333, 333}, {334, 0}, {335, 1}, {667, 333}, {668, 0}, {65535, 71}, {65280, 150}, {0, 0}} {
		d = r.late(c.last)
		next := at + 5000 + before
		if next > at {
			r.quiet(next - 1)
		}
		told(t, r.tick(next), hello(t, 2, d, next, uint32(i+2)))
		at, before = next, c.late
	}
	r.waits(1)
}

// P29.4: a handshake is tried for RekeyAttempt from its first attempt on; then it is over, and what waits is thrown away.
func TestOver(t *testing.T) {
	for _, waits := range []int{0, 1, 8} {
		r := setUp(t, 100, kept(2, 65535))
		r.draws(19)
		told(t, r.tick(100), hello(t, 2, draw(0, 0), 100, 1))
		for i := range waits {
			told(t, r.p.Tun(goes(t, 2, i, i)))
		}
		for i := range 17 {
			at := int64(100 + 5000*(i+1))
			told(t, r.tick(at), hello(t, 2, draw(i+1, 0), at, uint32(i+2)))
		}
		r.waits(waits)
		r.quiet(90099)
		if waits == 0 {
			told(t, r.tick(90100))
		} else {
			told(t, r.tick(90100), drop(1, api.ErrOld))
		}
		r.waits(0)
		// The Answer comes too late, and nothing is sent by itself.
		f := &far{t: t, n: 2}
		told(t, r.p.Udp(end(2), f.answer(hello(t, 2, draw(17, 0), 85100, 18).B, 5)), drop(0, api.ErrIndex))
		r.quiet(150000)
		told(t, r.p.Tun(goes(t, 2, 0, 0)), hello(t, 2, draw(18, 0), 150000, 19))
		r.draws(1)
		// Its first attempt was now.
		told(t, r.tick(155000), hello(t, 2, draw(19, 0), 155000, 20))
	}
}

// P29.4: one that is due just ahead of RekeyAttempt is sent again; the next one is not.
func TestOverJust(t *testing.T) {
	r := setUp(t, 0, other(2))
	d := r.late(333)
	told(t, r.p.Tun(goes(t, 2, 0, 0)), hello(t, 2, d, 0, 1))
	at, late := int64(0), int64(333)
	// Steps of 5333, 5000 and so on, up to 89999.
	for i, last := range []int{333, 333, 333, 333, 333, 333, 333, 333, 333, 333, 333, 333, 333, 333, 3, 0} {
		d = r.late(last)
		at += 5000 + late
		late = int64(last)
		told(t, r.tick(at), hello(t, 2, d, at, uint32(i+2)))
	}
	if at+5000+late != 89998 {
		t.Fatalf("%d", at+5000+late)
	}
	d = r.late(1)
	told(t, r.tick(89998), hello(t, 2, d, 89998, 18))
	r.late(0)
	r.quiet(94998)
	told(t, r.tick(94999), drop(1, api.ErrOld))
}

// P29.4: where no Hello can be sent again the handshake is over: what waits still waits, and the next one asks at once.
func TestNoneSent(t *testing.T) {
	r := setUp(t, 0, other(2))
	d := r.late(0)
	told(t, r.p.Tun(goes(t, 2, 0, 0)), hello(t, 2, d, 0, 1))
	r.quiet(4999)
	told(t, r.tick(5000), drop(1, api.ErrNone))
	r.waits(1)
	f := &far{t: t, n: 2}
	told(t, r.p.Udp(end(2), f.answer(hello(t, 2, d, 0, 1).B, 5)), drop(0, api.ErrIndex))
	// No Hello counts as sent: at once another one may be.
	told(t, r.p.Tun(goes(t, 2, 0, 0)), drop(1, api.ErrNone))
	d = r.late(0)
	told(t, r.p.Tun(goes(t, 2, 0, 0)), hello(t, 2, d, 5000, 2))
	// Its first attempt is of now, not of the handshake that is over.
	for i := range 17 {
		d = r.late(0)
		at := int64(10000 + 5000*i)
		told(t, r.tick(at), hello(t, 2, d, at, uint32(3+i)))
	}
	told(t, r.tick(95000), drop(1, api.ErrOld))
}

// P29: behind RekeyAfter keys that this side began with are tired: what is passed on begins a handshake, but no more than one each RekeyTimeout.
func TestTired(t *testing.T) {
	r, f := began(t, 0)
	b := goes(t, 2, 1, 1)
	n := uint64(0)
	passed := func(more ...plane.Out) {
		t.Helper()
		n++
		told(t, r.p.Tun(b), append([]plane.Out{send(end(2), f.passed(n, b))}, more...)...)
	}
	r.quiet(119999)
	passed()
	r.quiet(120000)
	passed(drop(1, api.ErrNone))
	d := r.late(333)
	passed(hello(t, 2, d, 120000, 2))
	first := hello(t, 2, d, 120000, 2)
	d = r.late(333)
	passed()
	r.quiet(124999)
	passed()
	// Ahead of the timer, but not of RekeyTimeout: another one, and the timer begins anew.
	r.quiet(125000)
	passed(hello(t, 2, d, 125000, 3))
	told(t, r.p.Udp(end(2), f.answer(first.B, 5)), drop(0, api.ErrIndex))
	r.quiet(130332)
	f = nextOf(t, r, d, 125000, 3)
	r.quiet(200000)
}

// nextOf lets the far side answer the plane's Hello of a draw, a time and a number.
func nextOf(t *testing.T, r *rig, d [32]byte, at int64, number uint32) *far {
	t.Helper()
	f := &far{t: t, n: 2}
	told(t, r.p.Udp(end(2), f.answer(hello(t, 2, d, at, number).B, 99)), send(end(2), f.passed(0, nil)))
	return f
}

// P29: where no draw waits what is tired tells so each time; where a handshake is tried already its first attempt stays.
func TestTiredFirst(t *testing.T) {
	r, f := began(t, 0)
	b := goes(t, 2, 1, 1)
	n := uint64(0)
	passed := func(more ...plane.Out) {
		t.Helper()
		n++
		told(t, r.p.Tun(b), append([]plane.Out{send(end(2), f.passed(n, b))}, more...)...)
	}
	r.quiet(120000)
	number := uint32(2)
	for at := int64(120000); at < 180000; at += 5000 {
		// What is passed on ahead of the timer says Hello, each time; the timer never comes.
		r.quiet(at)
		passed(hello(t, 2, r.late(100), at, number))
		number++
	}
	// The keys are too old: the packets wait, and the handshake goes on.
	d := r.late(100)
	told(t, r.tick(180100), hello(t, 2, d, 180100, number))
	told(t, r.p.Tun(b))
	number++
	for at := int64(185200); at < 210000; at += 5100 {
		d = r.late(100)
		told(t, r.tick(at), hello(t, 2, d, at, number))
		number++
	}
	// It was tried since 120000.
	told(t, r.tick(210700), drop(1, api.ErrOld))
}

// P29: what the other side began with is tired when it is too old alone.
func TestTiredAnswered(t *testing.T) {
	r, f := answered(t, 0)
	told(t, r.p.Udp(end(2), f.seal(nil)))
	r.draws(1)
	for i, at := range []int64{0, 119999, 120000, 179999} {
		r.quiet(at)
		told(t, r.p.Tun(goes(t, 2, 1, 1)), send(end(2), f.passed(uint64(i), goes(t, 2, 1, 1))))
	}
	r.quiet(180000)
	told(t, r.p.Tun(goes(t, 2, 1, 1)), hello(t, 2, draw(1, 0), 180000, 2))
}

// P29.3, P29.4: Keepalive behind what was delivered, if nothing was passed on since, no bytes are.
func TestKeepalive(t *testing.T) {
	r, f := began(t, 0)
	in := fill(t, comes(t, 2, 1, 1))
	came := func() {
		t.Helper()
		told(t, r.p.Udp(end(2), f.seal(in)), deliver(1, in[:21]))
	}
	r.quiet(100)
	came()
	r.quiet(9000)
	// It is set already.
	came()
	r.quiet(10099)
	told(t, r.tick(10100), send(end(2), f.passed(1, nil)))
	r.quiet(50000)
	// What is passed on clears it.
	came()
	r.quiet(59999)
	told(t, r.p.Tun(goes(t, 2, 0, 0)), send(end(2), f.passed(2, goes(t, 2, 0, 0))))
	r.quiet(70000)
	// What is not delivered sets none.
	told(t, r.p.Udp(end(2), f.seal(nil)))
	told(t, r.p.Udp(end(2), f.seal(make([]byte, 16))), drop(1, api.ErrHeader))
	told(t, r.p.Udp(end(2), f.seal(fill(t, comes(t, 3, 1, 1)))), drop(1, api.ErrSource))
	r.quiet(100000)
	// At the very end of the keys, and behind it.
	r.quiet(169999)
	came()
	d := r.late(0)
	told(t, r.tick(179999), send(end(2), f.passed(3, nil)), hello(t, 2, d, 179999, 2))
	r, f = began(t, 0)
	r.quiet(170000)
	came()
	r.quiet(200000)
	if v := r.stat(1); v.Ready || v.Tx != 20 {
		t.Errorf("Stat: %v", v)
	}
}

// P29.4: of keys of next alone what came is not answered, and nothing tells so.
func TestKeepaliveGone(t *testing.T) {
	r, f := began(t, 0)
	in := fill(t, comes(t, 2, 1, 1))
	r.quiet(175000)
	told(t, r.p.Udp(end(2), f.seal(in)), deliver(1, in[:21]))
	d := r.late(0)
	b := f.heard(5, 9)
	told(t, r.p.Udp(end(2), b), reply(t, b, api.Key{}, d, 2, end(2)))
	r.quiet(190000)
}

// P29.4: each Keep seconds, from the event on: no bytes are passed on, or a handshake is begun.
func TestKeep(t *testing.T) {
	r := setUp(t, 0, kept(2, 25))
	f := &far{t: t, n: 2}
	d := r.late(0)
	told(t, r.tick(0), hello(t, 2, d, 0, 1))
	told(t, r.p.Udp(end(2), f.answer(hello(t, 2, d, 0, 1).B, 5)), send(end(2), f.passed(0, nil)))
	r.quiet(24999)
	told(t, r.tick(25000), send(end(2), f.passed(1, nil)))
	r.quiet(49999)
	// Whatever is passed on begins it anew.
	told(t, r.p.Tun(goes(t, 2, 1, 1)), send(end(2), f.passed(2, goes(t, 2, 1, 1))))
	r.quiet(74998)
	told(t, r.tick(74999), send(end(2), f.passed(3, nil)))
	// What comes does not.
	told(t, r.p.Udp(end(2), f.seal(nil)))
	told(t, r.tick(99999), send(end(2), f.passed(4, nil)))
	// Tired keys, by what is passed on, begin a handshake.
	d = r.late(0)
	told(t, r.tick(124999), send(end(2), f.passed(5, nil)), hello(t, 2, d, 124999, 2))
}

// P29.4: where there is a handshake already that of kind 3 begins none, and is set again; when the handshake is over, it begins another one.
func TestKeepTried(t *testing.T) {
	r := setUp(t, 0, kept(2, 4))
	d := r.late(10)
	told(t, r.tick(0), hello(t, 2, d, 0, 1))
	// At 4000, 8000 and so on it is due, and all Hellos are those of the timer of kind 1.
	number, at := uint32(2), int64(5010)
	for at < 90000 {
		d = r.late(10)
		r.quiet(at - 1)
		told(t, r.tick(at), hello(t, 2, d, at, number))
		number++
		at += 5010
	}
	d = r.late(0)
	r.quiet(at)
	r.quiet(at/4000*4000 + 3999)
	at = at/4000*4000 + 4000
	told(t, r.tick(at), hello(t, 2, d, at, number))
	// Its first attempt was then.
	for range 17 {
		at += 5000
		number++
		d = r.late(0)
		told(t, r.tick(at), hello(t, 2, d, at, number))
	}
	r.waits(0)
}

// P29.4: a handshake is tried by one Hello at once: that of kind 3 does not say another one where RekeyTimeout has gone by.
func TestKeepAhead(t *testing.T) {
	r := setUp(t, 0, kept(2, 5))
	d := r.late(300)
	told(t, r.tick(0), hello(t, 2, d, 0, 1))
	d = r.late(0)
	r.quiet(5299)
	told(t, r.tick(5300), hello(t, 2, d, 5300, 2))
}

// P29.4: the Keep that the store has now counts, when it is set again.
func TestKeepNow(t *testing.T) {
	p := lost(2)
	p.Keep = 3
	r := setUp(t, 0, p)
	told(t, r.tick(0), drop(1, api.ErrAddr))
	p.Keep = 7
	r.put(p)
	told(t, r.tick(3000), drop(1, api.ErrAddr))
	r.quiet(9999)
	p.Keep = 0
	r.put(p)
	told(t, r.tick(10000), drop(1, api.ErrAddr))
	r.quiet(200000)
}

// P29.4: the timers of all slots, by their times, then by their slots, then by their kinds.
func TestOrder(t *testing.T) {
	// Each Keep is a number of seconds, unlike for each.
	r := setUp(t, 0, kept(2, 10), kept(3, 7), kept(4, 10))
	told(t, r.tick(0), drop(1, api.ErrNone), drop(2, api.ErrNone), drop(3, api.ErrNone))
	told(t, r.tick(10000), drop(2, api.ErrNone), drop(1, api.ErrNone), drop(3, api.ErrNone))
	told(t, r.tick(42000), drop(2, api.ErrNone), drop(1, api.ErrNone), drop(3, api.ErrNone), drop(2, api.ErrNone), drop(2, api.ErrNone), drop(1, api.ErrNone), drop(3, api.ErrNone), drop(2, api.ErrNone), drop(1, api.ErrNone), drop(3, api.ErrNone), drop(2, api.ErrNone))
}

// P29.4: all that are due at one time are done, also where one of them sets another one anew.
func TestOrderKinds(t *testing.T) {
	r, f := began(t, 0)
	in := fill(t, comes(t, 2, 1, 1))
	r.quiet(100000)
	told(t, r.p.Sync(r.put(kept(2, 10))))
	told(t, r.tick(100000), send(end(2), f.passed(1, nil)))
	// Both are due at 110000: that of kind 2 is done, and then that of kind 3.
	told(t, r.p.Udp(end(2), f.seal(in)), deliver(1, in[:21]))
	told(t, r.tick(110000), send(end(2), f.passed(2, nil)), send(end(2), f.passed(3, nil)))
	r.quiet(119999)
	// At 120000 the keys are tired; then all three are due at 130000, that of kind 1 ahead.
	d := r.late(0)
	told(t, r.tick(120000), send(end(2), f.passed(4, nil)), hello(t, 2, d, 120000, 2))
	told(t, r.p.Udp(end(2), f.seal(in)), deliver(1, in[:21]))
	d = r.late(0)
	told(t, r.tick(125000), hello(t, 2, d, 125000, 3))
	d = r.late(0)
	told(t, r.tick(130000), hello(t, 2, d, 130000, 4), send(end(2), f.passed(5, nil)), send(end(2), f.passed(6, nil)))
}

// P29: near the end of all times a timer that would be set to no time is not set; what was set stays.
func TestLastTimes(t *testing.T) {
	const last = api.MaxTime
	r := setUp(t, last-5000, other(2))
	d := r.late(1)
	told(t, r.p.Tun(goes(t, 2, 0, 0)), hello(t, 2, d, last-5000, 1))
	r.draws(1)
	r.quiet(last)
	r = setUp(t, last-5000, other(2))
	d = r.late(0)
	told(t, r.p.Tun(goes(t, 2, 0, 0)), hello(t, 2, d, last-5000, 1))
	d = r.late(0)
	r.quiet(last - 1)
	told(t, r.tick(last), hello(t, 2, d, last, 2))
	r.quiet(last)
	// Of kind 2 and 3.
	r, f := began(t, last-10001)
	told(t, r.p.Sync(r.put(kept(2, 10))))
	told(t, r.tick(last-10001), send(end(2), f.passed(1, nil)))
	told(t, r.tick(last-1), send(end(2), f.passed(2, nil)))
	in := fill(t, comes(t, 2, 1, 1))
	told(t, r.p.Udp(end(2), f.seal(in)), deliver(1, in[:21]))
	r.quiet(last)
}

// P29.4: where a timer of kind 1 stays that a later Hello could not set anew, that Hello counts as long ago: another one is said.
func TestLastTimesAgain(t *testing.T) {
	const last = api.MaxTime
	r, f := began(t, last-125400)
	r.quiet(last - 5400)
	b := goes(t, 2, 1, 1)
	d := r.late(333)
	told(t, r.p.Tun(b), send(end(2), f.passed(1, b)), hello(t, 2, d, last-5400, 2))
	r.quiet(last - 400)
	d = r.late(0)
	told(t, r.p.Tun(b), send(end(2), f.passed(2, b)), hello(t, 2, d, last-400, 3))
	d = r.late(0)
	r.quiet(last - 68)
	told(t, r.tick(last-67), hello(t, 2, d, last-67, 4))
	r.draws(1)
	r.quiet(last)
}

// P29.4: in how many steps the time goes on is of no matter.
func TestSteps(t *testing.T) {
	for seed := range uint64(12) {
		var all [2][]plane.Out
		for i := range all {
			x := rand.New(rand.NewPCG(29, seed))
			y := rand.New(rand.NewPCG(30, uint64(i)))
			r := setUp(t, 0, kept(2, 1+x.IntN(30)), kept(3, x.IntN(2)), lost(4), kept(5, 25))
			for range 30 {
				for range 1 + x.IntN(8) {
					r.p.Draw(draw(x.IntN(9999), x.IntN(65536)))
				}
				all[i] = append(all[i], r.p.Tun(goes(t, 2+x.IntN(4), 1, 1))...)
				to := r.p.Now() + int64(x.IntN(20000))
				for r.p.Now() < to && i == 1 {
					all[i] = append(all[i], r.tick(min(to, r.p.Now()+int64(y.IntN(3000))))...)
				}
				all[i] = append(all[i], r.tick(to)...)
			}
		}
		if len(all[0]) < 20 {
			t.Errorf("%d", len(all[0]))
		}
		if len(all[0]) != len(all[1]) {
			t.Fatalf("%d, and %d", len(all[0]), len(all[1]))
		}
		for i, a := range all[0] {
			if !same(a, all[1][i]) {
				t.Fatalf("%v, and %v", a, all[1][i])
			}
		}
	}
}
