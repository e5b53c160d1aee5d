package nets_test

import (
	"bytes"
	"math"
	"slices"
	"testing"

	"adit/api"
	"adit/cidr"
	"adit/curve"
	"adit/inner"
	"adit/nets"
	"adit/plane"
	"adit/record"
	"adit/vstore"
	"adit/wire"
	"adit/words"
)

// The secrets of the sides of most tests.
var secrets = [2]api.Key{{8}, {16, 31: 3}}

// room is how many datagrams are on the way to a side at most.
const room = 256

// row is n ordinary bytes, unlike for each seed.
func row(seed, n int) []byte {
	out := make([]byte, n)
	for i := range out {
		out[i] = byte((seed+3)*(i+5)*(i+seed+11)/3 + seed)
	}
	return out
}

// draw is an ordinary draw, unlike for each seed.
func draw(seed int) [32]byte {
	n := words.Put64(uint64(seed))
	d := [32]byte(row(seed%9973, 32))
	copy(d[8:], n[:])
	return d
}

// parsed is a text's address.
func parsed(t *testing.T, s string) api.Addr {
	t.Helper()
	a, e := cidr.Parse(s)
	if e != api.OK {
		t.Fatalf("Parse: %v", e)
	}
	return a
}

// addrs are the sides' addresses in the tunnel.
func addrs(t *testing.T) [2]api.Addr {
	t.Helper()
	return [2]api.Addr{parsed(t, "10.0.0.1"), parsed(t, "10.0.1.1")}
}

// ends are the sides' ends.
func ends(t *testing.T) [2]api.End {
	t.Helper()
	var out [2]api.End
	for s, told := range []string{"192.0.2.1:51820", "192.0.2.2:51820"} {
		end, e := cidr.ParseEnd(told)
		if e != api.OK {
			t.Fatalf("ParseEnd: %v", e)
		}
		out[s] = end
	}
	return out
}

// peers are the peers that the sides' stores have.
func peers(t *testing.T) [2]record.Peer {
	t.Helper()
	var out [2]record.Peer
	for s, route := range []string{"10.0.1.0/24", "10.0.0.0/24"} {
		p, e := cidr.ParsePrefix(route)
		if e != api.OK {
			t.Fatalf("ParsePrefix: %v", e)
		}
		out[s] = record.Peer{Public: curve.Public(secrets[1-s]), HasEnd: true, End: ends(t)[1-s], Routes: []api.Prefix{p}}
	}
	return out
}

// made is a net of the secrets.
func made(t *testing.T) *nets.Net {
	t.Helper()
	n, e := nets.New(secrets[0], secrets[1])
	if e != api.OK {
		t.Fatalf("New: %v", e)
	}
	return n
}

// drawn is one with so many draws at each side.
func drawn(t *testing.T, count int) *nets.Net {
	t.Helper()
	n := made(t)
	for i := range 2 * count {
		if e := n.Draw(i%2, draw(i)); e != api.OK {
			t.Fatalf("Draw: %v", e)
		}
	}
	return n
}

// agreed is one whose sides have keys: 0 began.
func agreed(t *testing.T) *nets.Net {
	t.Helper()
	n := drawn(t, 1)
	send(t, n, 0, nil)
	settles(t, n, 3, 3)
	return n
}

// send sends a body, and hands on what is told.
func send(t *testing.T, n *nets.Net, s int, body []byte) []plane.Out {
	t.Helper()
	l, e := n.Send(s, body)
	if e != api.OK || cap(l) != len(l) {
		t.Fatalf("Send: %v (room for %d of %d)", e, cap(l), len(l))
	}
	return l
}

// settles holds how many are delivered.
func settles(t *testing.T, n *nets.Net, most, want int) {
	t.Helper()
	if got := n.Settle(most); got != want {
		t.Fatalf("Settle(%d): %d, want %d", most, got, want)
	}
}

// tick lets the time go on, and hands on what is told.
func tick(t *testing.T, n *nets.Net, ms int64) [2][]plane.Out {
	t.Helper()
	a, b, e := n.Tick(ms)
	if e != api.OK {
		t.Fatalf("Tick(%d): %v", ms, e)
	}
	return [2][]plane.Out{a, b}
}

// way holds what is on the way to a side.
func way(t *testing.T, n *nets.Net, s int, want ...[]byte) {
	t.Helper()
	rows(t, "Way", n.Way(s), want)
}

// got holds what a side got.
func got(t *testing.T, n *nets.Net, s int, want ...[]byte) {
	t.Helper()
	rows(t, "Got", n.Got(s), want)
}

// rows holds that rows are the same, without room behind.
func rows(t *testing.T, name string, a, b [][]byte) {
	t.Helper()
	if !slices.EqualFunc(a, b, bytes.Equal) || cap(a) != len(a) {
		t.Fatalf("%s: %x (room for %d)\nwant %x", name, a, cap(a), b)
	}
	for _, x := range a {
		if cap(x) != len(x) {
			t.Fatalf("%s: room for %d of %d", name, cap(x), len(x))
		}
	}
}

// same tells whether the same is told.
func same(a, b plane.Out) bool {
	return a.Kind == b.Kind && a.End == b.End && a.Slot == b.Slot && a.E == b.E && bytes.Equal(a.B, b.B)
}

// told holds that just this is told.
func told(t *testing.T, l []plane.Out, want ...plane.Out) {
	t.Helper()
	if !slices.EqualFunc(l, want, same) || cap(l) != len(l) {
		t.Fatalf("told %v (room for %d)\nwant %v", l, cap(l), want)
	}
}

// drop tells that something was thrown away.
func drop(slot int, e api.Errno) plane.Out { return plane.Out{Kind: plane.Drop, Slot: slot, E: e} }

// only is the bytes of the one datagram that is told to be sent to an end.
func only(t *testing.T, l []plane.Out, to api.End, kind int) []byte {
	t.Helper()
	if len(l) != 1 || l[0].Kind != plane.Send || l[0].End != to {
		t.Fatalf("told %v", l)
	}
	if k, e := wire.Kind(l[0].B); k != kind || e != api.OK {
		t.Fatalf("kind %d, want %d", k, kind)
	}
	return l[0].B
}

// packet is a packet of the tunnel.
func packet(t *testing.T, from, to api.Addr, body []byte) []byte {
	t.Helper()
	b, e := inner.Write(from, to, body)
	if e != api.OK {
		t.Fatalf("Write: %v", e)
	}
	return b
}

// wrongSides are numbers of no side.
func wrongSides() []int { return []int{-1, 2, 3, -2, 256, math.MinInt, math.MaxInt} }

// The chapter's example.
func TestExample(t *testing.T) {
	n := drawn(t, 1)
	send(t, n, 0, []byte("ab"))
	for range 3 {
		got(t, n, 1)
		settles(t, n, 1, 1)
	}
	settles(t, n, 1, 0)
	got(t, n, 1, []byte("ab"))
	got(t, n, 0)
}

// P31.1: New: both sides as the chapter says.
func TestNew(t *testing.T) {
	n := made(t)
	for s := range 2 {
		p, store, peer := n.Plane(s), n.Store(s), peers(t)[s]
		if p.Public() != curve.Public(secrets[s]) || p.Now() != 0 {
			t.Errorf("side %d: %v at %d", s, p.Public(), p.Now())
		}
		if k := store.Keys(); !slices.Equal(k, []api.Key{peer.Public}) {
			t.Fatalf("side %d knows %v", s, k)
		}
		if got, _, there := store.Get(peer.Public); !there || !record.Same(got, peer) {
			t.Errorf("side %d has %v, want %v", s, got, peer)
		}
		if end, there := p.End(1); !there || end != ends(t)[1-s] {
			t.Errorf("side %d: the other one is at %v", s, end)
		}
		if v, e := p.Stat(1); e != api.OK || v != (plane.Stat{Last: -1}) {
			t.Errorf("side %d: %v %v", s, v, e)
		}
		if _, e := p.Stat(2); e != api.ErrNone {
			t.Errorf("side %d: a second peer", s)
		}
		way(t, n, s)
		got(t, n, s)
		if n.Plane(s) != p || n.Store(s) != store || n.Plane(1-s) == p || n.Store(1-s) == store {
			t.Errorf("side %d: not its own plane and store", s)
		}
	}
}

// P31.1: New of secrets that show the same.
func TestSamePublic(t *testing.T) {
	a := api.Key(row(1, 32))
	low, high, second := a, a, a
	low[0] ^= 7
	high[31] ^= 128
	second[31] ^= 64
	for _, b := range []api.Key{a, low, high, second} {
		if n, e := nets.New(a, b); n != nil || e != api.ErrArg {
			t.Errorf("New: %v %v", n, e)
		}
	}
	for _, at := range []int{0, 5, 31} {
		b := a
		b[at] ^= 16
		if n, e := nets.New(a, b); n == nil || e != api.OK {
			t.Errorf("New: %v", e)
		}
	}
	if n, e := nets.New(api.Key{}, api.Key{1}); n != nil || e != api.ErrArg {
		t.Errorf("New: %v %v", n, e)
	}
}

// refuses holds that each call that has a side answers an error, and nothing.
func refuses(t *testing.T, n *nets.Net, s int, want api.Errno) {
	t.Helper()
	none := func(name string, l []plane.Out, e api.Errno) {
		t.Helper()
		if len(l) != 0 || e != want {
			t.Errorf("%s of side %d: %v %v, want %v", name, s, l, e, want)
		}
	}
	none("Draw", nil, n.Draw(s, draw(1)))
	l, e := n.Send(s, []byte("ab"))
	none("Send", l, e)
	l, e = n.Send(s, make([]byte, 2000))
	none("Send", l, e)
	for _, at := range []int{0, 1, -1} {
		l, e = n.Deliver(s, at)
		none("Deliver", l, e)
		none("Lose", nil, n.Lose(s, at))
		none("Double", nil, n.Double(s, at))
		none("Swap", nil, n.Swap(s, 0, at))
	}
	l, e = n.Commit(s, nil)
	none("Commit", l, e)
	l, e = n.Commit(s, []vstore.Write{{Gone: true}, {Gone: true}})
	none("Commit", l, e)
	if len(n.Way(s)) != 0 || len(n.Got(s)) != 0 || n.Plane(s) != nil || n.Store(s) != nil {
		t.Errorf("side %d is something", s)
	}
}

// P31.1: of nil, and of a net that no call made.
func TestNone(t *testing.T) {
	for _, n := range []*nets.Net{nil, {}} {
		for _, s := range append(wrongSides(), 0, 1) {
			refuses(t, n, s, api.ErrNil)
		}
		for _, ms := range []int64{0, 1, -1, 200001, math.MaxInt64} {
			if a, b, e := n.Tick(ms); len(a) != 0 || len(b) != 0 || e != api.ErrNil {
				t.Errorf("Tick: %v %v %v", a, b, e)
			}
		}
		for _, most := range []int{0, 1, -1, math.MaxInt} {
			settles(t, n, most, 0)
		}
	}
}

// P31.1: of a side that is neither.
func TestWrongSide(t *testing.T) {
	n := drawn(t, 2)
	send(t, n, 0, nil)
	send(t, n, 1, nil)
	before := [2][][]byte{n.Way(0), n.Way(1)}
	for _, s := range wrongSides() {
		refuses(t, n, s, api.ErrArg)
	}
	for s := range 2 {
		way(t, n, s, before[s]...)
		if v := n.Store(s).Version(); v != made(t).Store(s).Version() {
			t.Errorf("Version: %d", v)
		}
	}
}

// P31.1: Draw: each side's plane has its own.
func TestDraw(t *testing.T) {
	n := made(t)
	for i := range 64 {
		if e := n.Draw(1, draw(i)); e != api.OK {
			t.Fatalf("Draw: %v", e)
		}
	}
	if e := n.Draw(1, draw(99)); e != api.ErrFull {
		t.Errorf("Draw: %v", e)
	}
	told(t, send(t, n, 0, nil), drop(1, api.ErrNone))
	if e := n.Draw(0, draw(1000)); e != api.OK {
		t.Errorf("Draw: %v", e)
	}
	// The first one of its own is taken.
	hello, e := wire.ReadHello(only(t, send(t, n, 0, nil), ends(t)[1], wire.Hello))
	if e != api.OK || hello.Ephemeral != curve.Public(draw(1000)) {
		t.Errorf("Ephemeral: %v %v", hello.Ephemeral, e)
	}
	hello, e = wire.ReadHello(only(t, send(t, n, 1, nil), ends(t)[0], wire.Hello))
	if e != api.OK || hello.Ephemeral != curve.Public(draw(0)) {
		t.Errorf("Ephemeral: %v %v", hello.Ephemeral, e)
	}
}

// P31.1: Send: what the plane tells of the packet, whose body goes as far as a packet does.
func TestSend(t *testing.T) {
	for s := range 2 {
		n := drawn(t, 2)
		for _, size := range []int{1481, 1482, 1500, 5000} {
			if l, e := n.Send(s, make([]byte, size)); len(l) != 0 || e != api.ErrLong {
				t.Fatalf("Send of %d: %v %v", size, l, e)
			}
			way(t, n, 1-s)
		}
		var bodies [][]byte
		for i, size := range []int{1480, 0, 1, 2, 1479, 700} {
			body := row(i, size)
			bodies = append(bodies, body)
			l := send(t, n, s, body)
			if i == 0 {
				way(t, n, 1-s, only(t, l, ends(t)[1-s], wire.Hello))
			} else {
				told(t, l)
			}
		}
		way(t, n, s)
		settles(t, n, 99, 2+len(bodies))
		got(t, n, 1-s, bodies...)
		got(t, n, s)
		// With keys each goes by itself.
		l := send(t, n, s, nil)
		way(t, n, 1-s, only(t, l, ends(t)[1-s], wire.Data))
		settles(t, n, 99, 1)
		got(t, n, 1-s, append(bodies, nil)...)
	}
}

// P31.1: Send goes from the side's address to the other one's.
func TestSendAddresses(t *testing.T) {
	for s := range 2 {
		n := agreed(t)
		send(t, n, s, []byte("body"))
		l, e := n.Deliver(1-s, 0)
		want := packet(t, addrs(t)[s], addrs(t)[1-s], []byte("body"))
		told(t, l, plane.Out{Kind: plane.Deliver, Slot: 1, B: want})
		if e != api.OK {
			t.Errorf("Deliver: %v", e)
		}
	}
}

// P31.1: Deliver takes what stands there, whatever stands ahead and behind, and gives it to the plane as from the other one's end.
func TestDeliver(t *testing.T) {
	for s := range 2 {
		n := agreed(t)
		for i := range 5 {
			send(t, n, 1-s, []byte{byte(i)})
		}
		all := n.Way(s)
		for _, at := range []int{-1, 5, 6, math.MinInt, math.MaxInt} {
			if l, e := n.Deliver(s, at); len(l) != 0 || e != api.ErrNone {
				t.Fatalf("Deliver of %d: %v %v", at, l, e)
			}
			if l, e := n.Deliver(1-s, 0); len(l) != 0 || e != api.ErrNone {
				t.Fatalf("Deliver at nothing: %v %v", l, e)
			}
		}
		way(t, n, s, all...)
		start := n.Got(s)
		// Each time the others stay in their order.
		for _, step := range []struct {
			at   int
			body byte
		}{{2, 2}, {3, 4}, {0, 0}, {1, 3}, {0, 1}} {
			all = slices.Delete(all, step.at, step.at+1)
			if _, e := n.Deliver(s, step.at); e != api.OK {
				t.Fatalf("Deliver: %v", e)
			}
			way(t, n, s, all...)
			start = append(start, []byte{step.body})
			got(t, n, s, start...)
		}
	}
}

// P31.1: a datagram comes from the other one's end, wherever that was thought to be; what is sent upon it is on the way at once.
func TestDeliverFrom(t *testing.T) {
	n := drawn(t, 1)
	moved := peers(t)[1]
	moved.End.Port = 7
	if _, e := n.Commit(1, []vstore.Write{{Peer: moved}}); e != api.OK {
		t.Fatalf("Commit: %v", e)
	}
	if end, _ := n.Plane(1).End(1); end.Port != 7 {
		t.Fatalf("End: %v", end)
	}
	send(t, n, 0, []byte("x"))
	l, e := n.Deliver(1, 0)
	way(t, n, 0, only(t, l, ends(t)[0], wire.Answer))
	way(t, n, 1)
	if end, _ := n.Plane(1).End(1); end != ends(t)[0] || e != api.OK {
		t.Errorf("End: %v %v", end, e)
	}
	l, e = n.Deliver(0, 0)
	way(t, n, 1, only(t, l, ends(t)[1], wire.Data))
	way(t, n, 0)
	if e != api.OK {
		t.Errorf("Deliver: %v", e)
	}
}

// What a side sends is on the way to the other one, wherever the side thinks that is.
func TestElsewhere(t *testing.T) {
	n := drawn(t, 2)
	moved := peers(t)[0]
	moved.End.Port = 7
	n.Commit(0, []vstore.Write{{Peer: moved}})
	l := send(t, n, 0, []byte("x"))
	way(t, n, 1, only(t, l, moved.End, wire.Hello))
	settles(t, n, 9, 3)
	got(t, n, 1, []byte("x"))
}

// P31.2: Lose, Double and Swap, of places where nothing stands, too.
func TestRows(t *testing.T) {
	for s := range 2 {
		n := agreed(t)
		for i := range 4 {
			send(t, n, 1-s, []byte{byte(i)})
		}
		all := n.Way(s)
		start := n.Got(s)
		for _, at := range []int{-1, 4, 5, math.MinInt, math.MaxInt} {
			for name, e := range map[string]api.Errno{
				"Lose": n.Lose(s, at), "Double": n.Double(s, at), "Swap": n.Swap(s, at, 0), "Swap with": n.Swap(s, 0, at), "Swap both": n.Swap(s, at, at),
				"other Lose": n.Lose(1-s, 0), "other Double": n.Double(1-s, 0), "other Swap": n.Swap(1-s, 0, 0),
			} {
				if e != api.ErrNone {
					t.Fatalf("%s of %d: %v", name, at, e)
				}
			}
		}
		way(t, n, s, all...)
		if e := n.Swap(s, 1, 3); e != api.OK {
			t.Errorf("Swap: %v", e)
		}
		way(t, n, s, all[0], all[3], all[2], all[1])
		if e := n.Swap(s, 2, 2); e != api.OK {
			t.Errorf("Swap: %v", e)
		}
		if e := n.Swap(s, 1, 0); e != api.OK {
			t.Errorf("Swap: %v", e)
		}
		way(t, n, s, all[3], all[0], all[2], all[1])
		if e := n.Double(s, 1); e != api.OK {
			t.Errorf("Double: %v", e)
		}
		way(t, n, s, all[3], all[0], all[2], all[1], all[0])
		if e := n.Lose(s, 2); e != api.OK {
			t.Errorf("Lose: %v", e)
		}
		way(t, n, s, all[3], all[0], all[1], all[0])
		if e := n.Lose(s, 2); e != api.OK {
			t.Errorf("Lose: %v", e)
		}
		way(t, n, s, all[3], all[0], all[0])
		way(t, n, 1-s)
		settles(t, n, 9, 3)
		got(t, n, s, append(start, []byte{3}, []byte{0})...)
	}
}

// P31.2, P31.6: no more than 256 are on the way to a side: what finds no room is lost.
func TestRoom(t *testing.T) {
	for s := range 2 {
		n := agreed(t)
		start := n.Got(s)
		for i := range room - 1 {
			send(t, n, 1-s, []byte{byte(i)})
		}
		if e := n.Double(s, 7); e != api.OK {
			t.Fatalf("Double: %v", e)
		}
		all := n.Way(s)
		if len(all) != room || !bytes.Equal(all[room-1], all[7]) {
			t.Fatalf("%d are on the way", len(all))
		}
		if e := n.Double(s, 0); e != api.ErrFull {
			t.Errorf("Double: %v", e)
		}
		for _, at := range []int{-1, room} {
			if e := n.Double(s, at); e != api.ErrNone {
				t.Errorf("Double of %d: %v", at, e)
			}
		}
		// It is told, but lost.
		only(t, send(t, n, 1-s, []byte("lost")), ends(t)[s], wire.Data)
		way(t, n, s, all...)
		// The other way has its own room.
		send(t, n, s, []byte("other"))
		if l := n.Way(1 - s); len(l) != 1 {
			t.Errorf("%d are on the way", len(l))
		}
		n.Lose(s, 0)
		send(t, n, 1-s, []byte("last"))
		if l := n.Way(s); len(l) != room {
			t.Errorf("%d are on the way", len(l))
		}
		n.Settle(9999)
		for i := 1; i < room-1; i++ {
			start = append(start, []byte{byte(i)})
		}
		got(t, n, s, append(start, []byte("last"))...)
	}
}

// P31.2: Tick.
func TestTick(t *testing.T) {
	n := drawn(t, 1)
	send(t, n, 0, []byte("x"))
	at := int64(0)
	for _, ms := range []int64{0, 1, 333, 4000} {
		for _, wrong := range []int64{-1, -at, 200001, -200000, math.MinInt64, math.MaxInt64} {
			if a, b, e := n.Tick(wrong); wrong != 0 && (len(a) != 0 || len(b) != 0 || e != api.ErrArg) {
				t.Fatalf("Tick(%d) at %d: %v %v %v", wrong, at, a, b, e)
			}
		}
		for _, l := range tick(t, n, ms) {
			told(t, l)
		}
		at += ms
		if n.Plane(0).Now() != at || n.Plane(1).Now() != at {
			t.Fatalf("at %d and %d, want %d", n.Plane(0).Now(), n.Plane(1).Now(), at)
		}
	}
	// What both tell is on its way: of 0, which finds no draw any more, and of 1, which has one.
	n.Lose(1, 0)
	send(t, n, 1, []byte("y"))
	n.Lose(0, 0)
	n.Draw(1, draw(50))
	l := tick(t, n, 200000)
	told(t, l[0], drop(1, api.ErrNone))
	way(t, n, 0, only(t, l[1][:1], ends(t)[0], wire.Hello))
	way(t, n, 1)
	told(t, l[1][1:], drop(1, api.ErrNone))
	if n.Plane(0).Now() != at+200000 || n.Plane(1).Now() != at+200000 {
		t.Errorf("at %d and %d", n.Plane(0).Now(), n.Plane(1).Now())
	}
	n = drawn(t, 2)
	send(t, n, 0, []byte("x"))
	l = tick(t, n, 5333)
	told(t, l[1])
	if all := n.Way(1); len(all) != 2 || !bytes.Equal(all[1], only(t, l[0], ends(t)[1], wire.Hello)) {
		t.Errorf("%d are on the way", len(all))
	}
	way(t, n, 0)
}

// P31.2: the time does not go beyond the last one.
func TestLastTime(t *testing.T) {
	n := made(t)
	left := int64(api.MaxTime)
	for ; left > 200000; left -= 200000 {
		if _, _, e := n.Tick(200000); e != api.OK {
			t.Fatalf("Tick: %v", e)
		}
	}
	for _, ms := range []int64{left + 1, 200000} {
		if _, _, e := n.Tick(ms); e != api.ErrArg || n.Plane(0).Now() != api.MaxTime-left || n.Plane(1).Now() != api.MaxTime-left {
			t.Fatalf("Tick(%d): %v, at %d and %d", ms, e, n.Plane(0).Now(), n.Plane(1).Now())
		}
	}
	for _, ms := range []int64{left, 0} {
		if _, _, e := n.Tick(ms); e != api.OK || n.Plane(0).Now() != api.MaxTime || n.Plane(1).Now() != api.MaxTime {
			t.Fatalf("Tick(%d): %v, at %d and %d", ms, e, n.Plane(0).Now(), n.Plane(1).Now())
		}
	}
	if _, _, e := n.Tick(1); e != api.ErrArg {
		t.Errorf("Tick: %v", e)
	}
}

// Where who was handed a plane let its time go on by itself, neither goes on if one may not.
func TestTimesApart(t *testing.T) {
	for s := range 2 {
		n := made(t)
		n.Plane(s).Tick(700)
		tick(t, n, 50)
		if n.Plane(s).Now() != 750 || n.Plane(1-s).Now() != 50 {
			t.Errorf("at %d and %d", n.Plane(s).Now(), n.Plane(1-s).Now())
		}
		for n.Plane(s).Now() < api.MaxTime-200000 {
			n.Plane(s).Tick(n.Plane(s).Now() + 200000)
		}
		n.Plane(s).Tick(api.MaxTime)
		if a, b, e := n.Tick(1); len(a) != 0 || len(b) != 0 || e != api.ErrArg || n.Plane(1-s).Now() != 50 {
			t.Errorf("Tick: %v %v %v, at %d", a, b, e, n.Plane(1-s).Now())
		}
	}
}

// P31.1: Commit: the store's error, or what the plane tells.
func TestCommit(t *testing.T) {
	for s := range 2 {
		n := made(t)
		version := n.Store(s).Version()
		gone := vstore.Write{Peer: record.Peer{Public: peers(t)[s].Public}, Gone: true}
		wrong := peers(t)[s]
		wrong.Keep = -1
		for _, c := range []struct {
			l    []vstore.Write
			want api.Errno
		}{
			{make([]vstore.Write, 17), api.ErrLong},
			{[]vstore.Write{{Peer: wrong}}, api.ErrForm},
			{[]vstore.Write{gone, gone}, api.ErrForm},
			{[]vstore.Write{{Peer: record.Peer{Public: api.Key{9}}, Gone: true}}, api.ErrNone},
		} {
			if l, e := n.Commit(s, c.l); len(l) != 0 || e != c.want {
				t.Errorf("Commit: %v %v, want %v", l, e, c.want)
			}
		}
		if n.Store(s).Version() != version {
			t.Fatalf("Version: %d", n.Store(s).Version())
		}
		// What waits is thrown away with the peer.
		told(t, send(t, n, s, nil), drop(1, api.ErrNone))
		l, e := n.Commit(s, []vstore.Write{gone})
		told(t, l, drop(1, api.ErrKey))
		if e != api.OK || n.Store(s).Version() != version+1 || len(n.Store(s).Keys()) != 0 || len(n.Store(1-s).Keys()) != 1 {
			t.Errorf("Commit: %v", e)
		}
		told(t, send(t, n, s, nil), drop(0, api.ErrRoute))
		l, e = n.Commit(s, []vstore.Write{{Peer: peers(t)[s]}})
		told(t, l)
		if e != api.OK || n.Store(s).Version() != version+2 {
			t.Errorf("Commit: %v", e)
		}
		told(t, send(t, n, s, nil), drop(1, api.ErrNone))
		if l, e = n.Commit(s, nil); len(l) != 0 || e != api.OK || n.Store(s).Version() != version+3 {
			t.Errorf("Commit: %v %v", l, e)
		}
	}
}

// P31.2: Settle: those on the way to 0 first, then those to 1; no more than it says.
func TestSettle(t *testing.T) {
	n := agreed(t)
	for i := range 3 {
		send(t, n, 0, []byte{byte(i)})
		send(t, n, 1, []byte{byte(10 + i)})
	}
	for _, most := range []int{0, -1, math.MinInt} {
		settles(t, n, most, 0)
	}
	settles(t, n, 2, 2)
	got(t, n, 0, []byte{10}, []byte{11})
	got(t, n, 1, nil)
	settles(t, n, 2, 2)
	got(t, n, 0, []byte{10}, []byte{11}, []byte{12})
	got(t, n, 1, nil, []byte{0})
	settles(t, n, math.MaxInt, 2)
	got(t, n, 1, nil, []byte{0}, []byte{1}, []byte{2})
	settles(t, n, math.MaxInt, 0)
}

// What a side got are the bodies that went from the other one's address to its own, and no others.
func TestGot(t *testing.T) {
	n := drawn(t, 2)
	a := addrs(t)
	// Behind a handed-out plane stand packets that no Send makes: with a longer header, and of other addresses.
	long := packet(t, a[1], a[0], []byte{1, 1, 1, 1, 'l', 'o', 'n', 'g'})
	long[0], long[10], long[11] = 0x46, 0, 0
	sum := 0xffff - int(inner.Sum(long[:24]))
	long[10], long[11] = byte(sum>>8), byte(sum)
	p := n.Plane(1)
	for i, b := range [][]byte{
		packet(t, parsed(t, "10.0.1.2"), a[0], []byte("from another one")),
		packet(t, a[1], parsed(t, "10.0.0.2"), []byte("to another one")),
		packet(t, a[1], a[1], []byte("to nobody")),
		packet(t, a[0], a[0], []byte("from nobody")),
		long,
		packet(t, a[1], a[0], []byte("short")),
	} {
		l := p.Tun(b)
		switch i {
		case 0:
			only(t, l, ends(t)[0], wire.Hello)
		case 2:
			told(t, l, drop(0, api.ErrRoute))
		default:
			told(t, l)
		}
	}
	// What a plane tells whoever calls it by itself is on no way.
	way(t, n, 0)
	tick(t, n, 5333)
	settles(t, n, 2, 2)
	if l := n.Way(0); len(l) != 5 {
		t.Fatalf("%d are on the way", len(l))
	}
	delivered := 0
	for len(n.Way(0)) > 0 {
		l, e := n.Deliver(0, 0)
		if e != api.OK || len(l) != 1 {
			t.Fatalf("Deliver: %v %v", l, e)
		}
		if l[0].Kind == plane.Deliver {
			delivered++
		} else {
			told(t, l, drop(1, api.ErrSource))
		}
	}
	if delivered != 4 {
		t.Errorf("%d delivered", delivered)
	}
	got(t, n, 0, []byte("long"), []byte("short"))
	got(t, n, 1)
}

// What is handed in is not kept, what is handed out is the caller's.
func TestMemory(t *testing.T) {
	n := drawn(t, 2)
	body := []byte("body")
	l := send(t, n, 0, body)
	copy(body, "....")
	hello := bytes.Clone(l[0].B)
	clear(l[0].B)
	way(t, n, 1, hello)
	clear(n.Way(1)[0])
	clear(n.Way(1))
	way(t, n, 1, hello)
	if e := n.Double(1, 0); e != api.OK {
		t.Fatalf("Double: %v", e)
	}
	both := n.Way(1)
	clear(both[0])
	if !bytes.Equal(both[1], hello) {
		t.Errorf("one that is doubled is the same memory")
	}
	way(t, n, 1, hello, hello)
	n.Lose(1, 1)
	settles(t, n, 2, 2)
	l, e := n.Deliver(1, 0)
	if e != api.OK || len(l) != 1 || l[0].Kind != plane.Deliver {
		t.Fatalf("Deliver: %v %v", l, e)
	}
	clear(l[0].B)
	got(t, n, 1, []byte("body"))
	clear(n.Got(1)[0])
	clear(n.Got(1))
	got(t, n, 1, []byte("body"))
	// A row that was handed out stays as it was.
	send(t, n, 0, []byte("more"))
	send(t, n, 0, []byte("still more"))
	row := n.Way(1)
	want := slices.Clone(row)
	n.Swap(1, 0, 1)
	n.Lose(1, 0)
	send(t, n, 0, nil)
	rows(t, "Way", row, want)
}
