package nets_test

import (
	"bytes"
	"fmt"
	"math/rand/v2"
	"slices"
	"testing"

	"adit/api"
	"adit/curve"
	"adit/inner"
	"adit/nets"
	"adit/plane"
	"adit/record"
	"adit/vstore"
	"adit/wire"
	"adit/words"
)

// model is two planes, and rows of what is on its way, put together by hand.
type model struct {
	t      *testing.T
	planes [2]*plane.Plane
	stores [2]*vstore.Store
	way    [2][]string
	got    [2][]string
	sealed [2]map[[2]uint64]bool // Receiver and Counter of what each side sealed
	told   []string              // all that was told
}

// newModel is a model of the secrets.
func newModel(t *testing.T) *model {
	t.Helper()
	m := &model{t: t}
	for s := range 2 {
		m.sealed[s] = map[[2]uint64]bool{}
		m.stores[s] = vstore.New()
		_, events, e := m.stores[s].Commit(nil, []vstore.Write{{Peer: peers(t)[s]}})
		p, f := plane.New(secrets[s], m.stores[s], 0)
		if e != api.OK || f != api.OK {
			t.Fatalf("Commit: %v, New: %v", e, f)
		}
		told(t, p.Sync(events))
		m.planes[s] = p
	}
	return m
}

// heard takes in what a side told.
func (m *model) heard(s int, l []plane.Out) []plane.Out {
	m.t.Helper()
	for _, x := range l {
		m.told = append(m.told, fmt.Sprint(s, x))
		if x.Kind == plane.Send {
			m.once(s, x.B)
			if len(m.way[1-s]) < room {
				m.way[1-s] = append(m.way[1-s], string(x.B))
			}
		}
		if x.Kind != plane.Deliver {
			continue
		}
		if head, e := inner.Read(x.B); e == api.OK && head.From == addrs(m.t)[1-s] && head.To == addrs(m.t)[s] {
			m.got[s] = append(m.got[s], string(x.B[20:]))
		}
	}
	return l
}

// once holds P31.4: no number of a Data twice.
func (m *model) once(s int, b []byte) {
	m.t.Helper()
	d, e := wire.ReadData(b)
	if e != api.OK {
		return
	}
	number := [2]uint64{uint64(d.Receiver), d.Counter}
	if m.sealed[s][number] {
		m.t.Fatalf("side %d sealed twice for %v", s, number)
	}
	m.sealed[s][number] = true
}

// there tells whether something is on the way to a side at a place.
func (m *model) there(s, at int) bool { return at >= 0 && at < len(m.way[s]) }

// deliver does what a net's Deliver should do.
func (m *model) deliver(s, at int) ([]plane.Out, api.Errno) {
	m.t.Helper()
	if !m.there(s, at) {
		return nil, api.ErrNone
	}
	b := m.way[s][at]
	m.way[s] = slices.Delete(m.way[s], at, at+1)
	return m.heard(s, m.planes[s].Udp(ends(m.t)[1-s], []byte(b))), api.OK
}

// settle does what a net's Settle should do.
func (m *model) settle(most int) int {
	m.t.Helper()
	for i := range max(most, 0) {
		s := 0
		if len(m.way[0]) == 0 {
			s = 1
		}
		if _, e := m.deliver(s, 0); e != api.OK {
			return i
		}
	}
	return max(most, 0)
}

// player does the same with a net and with a model, by chance, and holds that it is the same.
type player struct {
	t     *testing.T
	x     *rand.Rand
	n     *nets.Net
	m     *model
	count int
	sent  [2]map[string]int // the bodies that were sent at a side, and how often
}

// newPlayer is a player of a seed.
func newPlayer(t *testing.T, seed uint64) *player {
	t.Helper()
	p := &player{t: t, x: rand.New(rand.NewPCG(16, seed)), n: made(t), m: newModel(t)}
	for s := range 2 {
		p.sent[s] = map[string]int{}
	}
	return p
}

// agrees holds that a net's sides are as the model's, and what follows of them.
func (p *player) agrees() {
	p.t.Helper()
	for s := range 2 {
		if !slices.EqualFunc(p.n.Way(s), p.m.way[s], equal) || !slices.EqualFunc(p.n.Got(s), p.m.got[s], equal) {
			p.t.Fatalf("side %d: way %x\nwant %x\ngot %q, want %q", s, p.n.Way(s), p.m.way[s], p.n.Got(s), p.m.got[s])
		}
		if p.n.Plane(s).Now() != p.m.planes[s].Now() || p.n.Store(s).Version() != p.m.stores[s].Version() {
			p.t.Fatalf("side %d: at %d, version %d", s, p.n.Plane(s).Now(), p.n.Store(s).Version())
		}
		// P31.6: rows within their bounds.
		if v, _ := p.n.Plane(s).Stat(1); len(p.n.Way(s)) > room || v.Waits > api.MaxStaged {
			p.t.Fatalf("side %d: %d on the way, %d wait", s, len(p.n.Way(s)), v.Waits)
		}
		// P31.3: no more than was sent.
		came := map[string]int{}
		for _, b := range p.n.Got(s) {
			came[string(b)]++
			if came[string(b)] > p.sent[1-s][string(b)] {
				p.t.Fatalf("side %d got %q more often than it was sent", s, b)
			}
		}
	}
}

// equal tells whether bytes are a text's.
func equal(b []byte, s string) bool { return string(b) == s }

// draws fills each side's draws up.
func (p *player) draws() {
	p.t.Helper()
	for s := range 2 {
		for e := api.OK; e == api.OK; {
			p.count++
			e = p.n.Draw(s, draw(p.count))
			if f := p.m.planes[s].Draw(draw(p.count)); f != e {
				p.t.Fatalf("Draw: %v, want %v", e, f)
			}
		}
	}
}

// body is a body of a number; some are alike.
func (p *player) body() []byte {
	p.count++
	if p.x.IntN(5) == 0 {
		return []byte("like another")
	}
	n := words.Put64(uint64(p.count))
	return append(n[:], row(p.count, p.x.IntN(40))...)
}

// send sends a body from a side.
func (p *player) send(s int, body []byte) {
	p.t.Helper()
	p.sent[s][string(body)]++
	l, e := p.n.Send(s, body)
	if e != api.OK {
		p.t.Fatalf("Send: %v", e)
	}
	told(p.t, l, p.m.heard(s, p.m.planes[s].Tun(packet(p.t, addrs(p.t)[s], addrs(p.t)[1-s], body)))...)
}

// place is a place on the way to a side, or just beyond.
func (p *player) place(s int) int { return p.x.IntN(len(p.m.way[s])+2) - 1 }

// deliver delivers a datagram, or none.
func (p *player) deliver(s, at int) {
	p.t.Helper()
	l, e := p.n.Deliver(s, at)
	want, f := p.m.deliver(s, at)
	if e != f {
		p.t.Fatalf("Deliver(%d, %d): %v, want %v", s, at, e, f)
	}
	told(p.t, l, want...)
}

// tick lets the time go on.
func (p *player) tick(ms int64) {
	p.t.Helper()
	l := tick(p.t, p.n, ms)
	for s := range 2 {
		want, e := p.m.planes[s].Tick(p.m.planes[s].Now() + ms)
		if e != api.OK {
			p.t.Fatalf("Tick: %v", e)
		}
		told(p.t, l[s], p.m.heard(s, want)...)
	}
}

// commit commits writes at a side.
func (p *player) commit(s int, l ...vstore.Write) {
	p.t.Helper()
	outs, e := p.n.Commit(s, l)
	_, events, f := p.m.stores[s].Commit(nil, l)
	if e != f {
		p.t.Fatalf("Commit: %v, want %v", e, f)
	}
	told(p.t, outs, p.m.heard(s, p.m.planes[s].Sync(events))...)
}

// change changes a side's peer, takes it away, or puts another one.
func (p *player) change(s int) {
	p.t.Helper()
	peer := peers(p.t)[s]
	peer.Keep = p.x.IntN(3) * 7
	switch p.x.IntN(6) {
	case 0:
		p.commit(s, vstore.Write{Peer: record.Peer{Public: peer.Public}, Gone: true})
	case 1:
		p.commit(s, vstore.Write{Peer: record.Peer{Public: curve.Public(api.Key{77}), HasEnd: true, End: api.End{Addr: addrs(p.t)[0], Port: 5}, Keep: 3}})
	case 2:
		peer.HasEnd, peer.End = false, api.End{}
		p.commit(s, vstore.Write{Peer: peer})
	default:
		p.commit(s, vstore.Write{Peer: peer})
	}
}

// rows loses, doubles, or reorders what is on the way to a side.
func (p *player) rows(s int) {
	p.t.Helper()
	at, with := p.place(s), p.place(s)
	there := p.m.there(s, at)
	var e, want api.Errno
	switch p.x.IntN(3) {
	case 0:
		if e = p.n.Lose(s, at); there {
			p.m.way[s] = slices.Delete(p.m.way[s], at, at+1)
		}
	case 1:
		if e = p.n.Double(s, at); there && len(p.m.way[s]) == room {
			want = api.ErrFull
		} else if there {
			p.m.way[s] = append(p.m.way[s], p.m.way[s][at])
		}
	case 2:
		there = there && p.m.there(s, with)
		if e = p.n.Swap(s, at, with); there {
			p.m.way[s][at], p.m.way[s][with] = p.m.way[s][with], p.m.way[s][at]
		}
	}
	if !there {
		want = api.ErrNone
	}
	if e != want {
		p.t.Fatalf("of side %d at %d and %d: %v, want %v", s, at, with, e, want)
	}
}

// act does something.
func (p *player) act() {
	p.t.Helper()
	s := p.x.IntN(2)
	switch k := p.x.IntN(30); {
	case k < 8:
		p.send(s, p.body())
	case k < 10:
		p.tick(int64(p.x.IntN(4000)))
	case k == 10 && p.x.IntN(3) == 0:
		p.tick(int64(p.x.IntN(200001)))
	case k == 11 && p.x.IntN(3) == 0:
		p.change(s)
	case k == 12 && p.x.IntN(3) == 0:
		on := p.x.IntN(2) == 0
		p.n.Plane(s).Load(on)
		p.m.planes[s].Load(on)
	case k < 18:
		p.rows(s)
	case k < 21:
		most := p.x.IntN(8) - 1
		if got, want := p.n.Settle(most), p.m.settle(most); got != want {
			p.t.Fatalf("Settle(%d): %d, want %d", most, got, want)
		}
	default:
		p.deliver(s, p.place(s))
	}
}

// P31.1, P31.2, P31.3, P31.4, P31.6, P5: a net does what two planes and two rows do that are put together by hand, and what follows holds.
func TestModel(t *testing.T) {
	came := 0
	for seed := range uint64(20) {
		p := newPlayer(t, seed)
		for range 250 {
			if p.x.IntN(10) > 0 {
				p.draws()
			}
			p.act()
			p.agrees()
		}
		came += len(p.n.Got(0)) + len(p.n.Got(1))
	}
	if came < 300 {
		t.Errorf("%d came", came)
	}
}

// P31.4, where the rows are full, and all is doubled.
func TestManyNumbers(t *testing.T) {
	p := newPlayer(t, 99)
	for range 30 {
		p.draws()
		for range 20 {
			p.send(p.x.IntN(2), p.body())
		}
		for s := range 2 {
			for at := range len(p.m.way[s]) {
				p.n.Double(s, at)
				p.m.way[s] = append(p.m.way[s], p.m.way[s][at])
			}
			for range 60 {
				p.deliver(s, p.place(s))
			}
		}
		p.tick(int64(p.x.IntN(30000)))
		for s := range 2 {
			for len(p.m.way[s]) > 100 {
				p.n.Lose(s, 0)
				p.m.way[s] = p.m.way[s][1:]
			}
		}
		p.agrees()
	}
	if len(p.m.sealed[0]) < 150 || len(p.m.sealed[1]) < 150 {
		t.Errorf("%d, and %d sealed", len(p.m.sealed[0]), len(p.m.sealed[1]))
	}
}

// mix delivers all that is on its way, in any order, and what that brings.
func (p *player) mix() {
	p.t.Helper()
	for range 2000 {
		s := p.x.IntN(2)
		if len(p.m.way[s]) == 0 {
			s = 1 - s
		}
		if len(p.m.way[s]) == 0 {
			return
		}
		p.deliver(s, p.x.IntN(len(p.m.way[s])))
	}
	p.t.Fatalf("more and more is on its way")
}

// restore lets both sides know each other, as at first, and be under no load.
func (p *player) restore() {
	p.t.Helper()
	for s := range 2 {
		p.commit(s, vstore.Write{Peer: peers(p.t)[s]})
		p.n.Plane(s).Load(false)
		p.m.planes[s].Load(false)
	}
}

// apart lets the time go on while all that is sent is lost, for so long that a handshake may be tried for too long.
func (p *player) apart() {
	p.t.Helper()
	for range 1 + p.x.IntN(20) {
		p.draws()
		p.tick(int64(p.x.IntN(12000)))
		for s := range 2 {
			for p.n.Lose(s, 0) == api.OK {
				p.m.way[s] = p.m.way[s][1:]
			}
		}
		p.send(p.x.IntN(2), p.body())
	}
}

// comes holds P31.5 of a body that waits at a side from now on, and tells whether it comes, or was thrown away.
func (p *player) comes(s int, body []byte) (bool, bool) {
	p.t.Helper()
	p.m.told = nil
	for left := int64(6000); left > 0; {
		p.draws()
		p.mix()
		ms := min(left, 1+int64(p.x.IntN(3000)))
		p.tick(ms)
		left -= ms
	}
	p.draws()
	p.mix()
	p.agrees()
	came := slices.ContainsFunc(p.n.Got(1-s), func(b []byte) bool { return bytes.Equal(b, body) })
	return came, slices.Contains(p.m.told, fmt.Sprint(s, drop(1, api.ErrOld)))
}

// P31.5: a body that waits comes within six seconds where nothing is lost; or it was thrown away, since the handshake had been tried for too long.
func TestComes(t *testing.T) {
	count, thrown := 0, 0
	for seed := range uint64(100) {
		p := newPlayer(t, 1000+seed)
		for range 30 {
			p.draws()
			p.act()
		}
		p.restore()
		if p.x.IntN(4) > 0 {
			p.apart()
		}
		s := p.x.IntN(2)
		body := fmt.Append(nil, "waits", seed)
		p.send(s, body)
		if v, _ := p.n.Plane(s).Stat(1); v.Waits == 0 {
			continue
		}
		came, old := p.comes(s, body)
		switch {
		case came && !old:
			count++
		case old && !came:
			thrown++
		default:
			v, _ := p.n.Plane(s).Stat(1)
			t.Errorf("seed %d: of the body of side %d: came %v, thrown away %v, %v", seed, s, came, old, v)
		}
	}
	if count < 20 {
		t.Errorf("%d came, %d were thrown away", count, thrown)
	}
}

// P31.5: one that waits until a handshake was tried for too long is thrown away, and comes no more.
func TestThrown(t *testing.T) {
	p := newPlayer(t, 5)
	p.draws()
	p.send(1, []byte("too long"))
	for now := int64(0); now < api.RekeyAttempt-1; now = p.n.Plane(1).Now() {
		p.tick(min(1000, api.RekeyAttempt-1-now))
		p.draws()
		for p.n.Lose(0, 0) == api.OK {
			p.m.way[0] = p.m.way[0][1:]
		}
	}
	if v, _ := p.n.Plane(1).Stat(1); v.Waits != 1 {
		t.Fatalf("Waits: %d at %d", v.Waits, p.n.Plane(1).Now())
	}
	if came, old := p.comes(1, []byte("too long")); came || !old {
		t.Errorf("came %v, thrown away %v", came, old)
	}
}
