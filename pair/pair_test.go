package pair_test

import (
	"bytes"
	"math"
	"math/rand/v2"
	"slices"
	"testing"

	"adit/aead"
	"adit/api"
	"adit/curve"
	"adit/inner"
	"adit/noise"
	"adit/pair"
	"adit/window"
	"adit/wire"
	"adit/words"
)

// row is n ordinary bytes, unlike for each seed.
func row(seed, n int) []byte {
	out := make([]byte, n)
	for i := range out {
		out[i] = byte((seed+3)*(i+5)*(i+seed+11)/3 + seed)
	}
	return out
}

// key is an ordinary key, unlike for each seed.
func key(seed int) api.Key { return api.Key(row(seed, 32)) }

// keys are those of the side that began.
func keys() noise.Keys {
	return noise.Keys{Send: key(1), Receive: key(2), Local: 3, Remote: 4, First: true}
}

// exchanged are those of the other side.
func exchanged(k noise.Keys) noise.Keys {
	return noise.Keys{Send: k.Receive, Receive: k.Send, Local: k.Remote, Remote: k.Local, First: !k.First}
}

// born is a pair of keys.
func born(t *testing.T, k noise.Keys, at int64) pair.Pair {
	t.Helper()
	p, e := pair.New(k, at)
	if e != api.OK {
		t.Fatalf("New: %v", e)
	}
	return p
}

// both are the pairs of both sides.
func both(t *testing.T, at int64) (pair.Pair, pair.Pair) {
	t.Helper()
	return born(t, keys(), at), born(t, exchanged(keys()), at)
}

// seal is a pair that sealed a text, and what it sealed.
func seal(t *testing.T, p pair.Pair, plain []byte, at int64) (pair.Pair, wire.DataMsg) {
	t.Helper()
	q, m, e := p.Seal(plain, at)
	if e != api.OK {
		t.Fatalf("Seal: %v", e)
	}
	return q, m
}

// open is a pair that opened a text.
func open(t *testing.T, p pair.Pair, m wire.DataMsg, at int64, want []byte) pair.Pair {
	t.Helper()
	q, got, e := p.Open(m, at)
	if e != api.OK || !bytes.Equal(got, want) {
		t.Fatalf("Open: %v %x, want %x", e, got, want)
	}
	return q
}

// sealed is a Data, of a key and a number, with whatever text.
func sealed(k api.Key, receiver uint32, n uint64, plain []byte) wire.DataMsg {
	box, _ := aead.Seal(k, aead.Counter(n), plain, nil)
	return wire.DataMsg{Receiver: receiver, Counter: n, Box: box}
}

// unsealed holds that a pair does not seal, and is as it was.
func unsealed(t *testing.T, p pair.Pair, plain []byte, at int64, want api.Errno) {
	t.Helper()
	q, m, e := p.Seal(plain, at)
	if e != want || q != p || m.Receiver != 0 || m.Counter != 0 || len(m.Box) != 0 {
		t.Errorf("Seal of %d bytes at %d: %v, want %v; %v %v", len(plain), at, e, want, q, m)
	}
}

// unopened holds that a pair does not open, and is as it was.
func unopened(t *testing.T, p pair.Pair, m wire.DataMsg, at int64, want api.Errno) {
	t.Helper()
	q, b, e := p.Open(m, at)
	if e != want || q != p || len(b) != 0 {
		t.Errorf("Open of %d %d at %d: %v, want %v; %v %x", m.Receiver, m.Counter, at, e, want, q, b)
	}
}

// took is a window that took numbers.
func took(t *testing.T, all ...uint64) window.Window {
	t.Helper()
	var w window.Window
	for _, n := range all {
		next, e := w.Take(n)
		if e != api.OK {
			t.Fatalf("Take(%d): %v", n, e)
		}
		w = next
	}
	return w
}

// noTimes are numbers that are no times.
func noTimes() []int64 {
	return []int64{-1, -2, -api.RejectAfter, -api.MaxTime, math.MinInt64, math.MinInt64 + 1, math.MinInt64 + api.RejectAfter, api.MaxTime + 1, api.MaxTime + api.RejectAfter, math.MaxInt64 - 1, math.MaxInt64}
}

// births are times at their edges, and ordinary ones.
func births() []int64 {
	return []int64{0, 1, 999, 120000, 180000, 1 << 31, 1 << 32, api.MaxTime - 180001, api.MaxTime - 180000, api.MaxTime - 1, api.MaxTime}
}

// spans are what may lie between two times, about the edges that the chapter names.
func spans() []int64 {
	return []int64{-180001, -180000, -1, 0, 1, 119998, 119999, 120000, 120001, 179998, 179999, 180000, 180001, 300000, 1 << 31, 1 << 39}
}

// P20.1: New.
func TestNew(t *testing.T) {
	for _, at := range births() {
		for _, k := range []noise.Keys{{}, keys(), exchanged(keys())} {
			p, e := pair.New(k, at)
			if e != api.OK || p != (pair.Pair{Keys: k, Born: at}) || p.Window != (window.Window{}) {
				t.Errorf("%d: %v %v", at, e, p)
			}
		}
	}
	for _, at := range noTimes() {
		if p, e := pair.New(keys(), at); e != api.ErrArg || p != (pair.Pair{}) {
			t.Errorf("%d: %v %v", at, e, p)
		}
	}
}

// isTime tells whether a number is a time.
func isTime(at int64) bool { return at >= 0 && at <= api.MaxTime }

// P20.1: Old and Tired, by what lies between; what a pair sealed and opened is of no matter for Old.
func TestOldAndTired(t *testing.T) {
	for _, at := range births() {
		for _, span := range spans() {
			now := at + span
			old := !isTime(now) || span < 0 || span >= 180000
			first, second := both(t, at)
			if first.Old(now) != old || second.Old(now) != old {
				t.Errorf("born at %d: Old(%d): %v", at, now, !old)
			}
			if got, want := first.Tired(now), old || span >= 120000; got != want {
				t.Errorf("born at %d, first: Tired(%d): %v", at, now, got)
			}
			if got := second.Tired(now); got != old {
				t.Errorf("born at %d, not first: Tired(%d): %v", at, now, got)
			}
			second.Sent, second.Window = 1<<60-1, took(t, 1, 2)
			if second.Old(now) != old || second.Tired(now) != old {
				t.Errorf("born at %d, in use: Old(%d), Tired", at, now)
			}
		}
	}
}

// P20.1: at what is no time a pair is too old, and tired.
func TestNoTime(t *testing.T) {
	for _, at := range births() {
		for _, now := range noTimes() {
			first, second := both(t, at)
			if !first.Old(now) || !second.Old(now) || !first.Tired(now) || !second.Tired(now) {
				t.Errorf("born at %d: not old, or not tired, at %d", at, now)
			}
			unsealed(t, first, make([]byte, 16), now, api.ErrOld)
			unopened(t, first, sealed(key(2), 3, 0, nil), now, api.ErrOld)
		}
	}
}

// P20.1: tired by how many packets it sealed, whoever began.
func TestTiredOfMany(t *testing.T) {
	for _, k := range []noise.Keys{keys(), exchanged(keys())} {
		for _, c := range []struct {
			sent uint64
			want bool
		}{{0, false}, {1, false}, {1<<60 - 1, false}, {1 << 60, true}, {1<<60 + 1, true}, {1 << 63, true}, {api.RejectMessages - 1, true}, {api.RejectMessages, true}, {math.MaxUint64, true}} {
			p := born(t, k, 1000)
			p.Sent = c.sent
			if p.Tired(1000) != c.want || p.Tired(120999) != c.want || p.Old(1000) {
				t.Errorf("%d sealed: Tired: %v", c.sent, !c.want)
			}
		}
	}
}

// P20.1: how many packets it opened is of no matter.
func TestOpenedIsNotTired(t *testing.T) {
	p := born(t, keys(), 0)
	p.Window = took(t, 1<<60, 1<<63)
	if p.Tired(0) || p.Tired(119999) {
		t.Error("tired")
	}
}

// P20.2: boxes that another program made.
func TestTold(t *testing.T) {
	for _, c := range []struct {
		key        string
		n          uint64
		plain, box string
	}{
		{"2dbe4e3ca3ab18b8c3b49a12054998d723785848c943145579b5b8debdc438f9", 0, "", "6f521fd4b50e7d7d5554db4b344f3382"},
		{"abeeec9361cea5d25bf0ac738ad3c96c85dc66a89e5b01b9c3638e2adfad20e9", 1, "839dd2cc0731dec683343629c89d3033", "5de94bea9d9fd1d51265e1b0589f378eaf2e23f505a73e2d8d9677168babc71c"},
		{"55de1832276a5d9354f8558038d5ed2070b0297c6b2c8eef1067e6b86d710f87", 255, "a3bf813456da3b0b97962a627323f3f00e7b50d24e993ed6a627d5a572aa7f69", "0669f5991157fd93b66abef121c2a3108c1a208c8a94634ffd03bddc409cfd65173b759a2d24d35d27cd313773b3fdc4"},
		{"f33af69293ad0ef1c39c3787c67bf46f7f511522f8219b53b7a46d3d9622d8ad", 72623859790382856, "d1f452ca167b3f7bd97d73ca137a3d928489420bf418edbaff6497b2b85a81e1464b7e61925709873ca90a0751333405", "4a317a4b3b895861a7de2fe278e20578f99d743094c5bfd11b3d7c7bb90b5fe1f12fba3b96b2a37ec2ab404c771e1f085df2cf9144f5e7301a6fe51ede0de50c"},
		{"bc7d03337660a5910e6c3502664e1333434f296070fbdcb2b2192d52d1407edd", 18446744073709543422, "761ed9e247974a8e6d3eb5392e10414f05b9ca6732ee20c302a9956a33cce7fbe711139d754892f8e93f4271e97097fb30a4fa55eeec10aa4b873e51b99e64f4", "3b933ffb5dfb0083b919f494efdebfccc834e3436a2b5c9674e3941d5d95bc1a52518a7557436842d5a7187c36fc581659d0d5e04aff4e7d0bc6d585833218316ef18344a144afbabef6e5be704337a5"},
	} {
		k, _ := words.Unhex(c.key)
		plain, _ := words.Unhex(c.plain)
		box, _ := words.Unhex(c.box)
		p := born(t, noise.Keys{Send: api.Key(k), Receive: key(9), Local: 7, Remote: 8}, 5)
		p.Sent = c.n
		q, m := seal(t, p, plain, 6)
		if m.Receiver != 8 || m.Counter != c.n || !bytes.Equal(m.Box, box) {
			t.Errorf("%d: %v", c.n, m)
		}
		p.Sent++
		if q != p {
			t.Errorf("%d: %v, want %v", c.n, q, p)
		}
		other := born(t, exchanged(p.Keys), 5)
		other = open(t, other, wire.DataMsg{Receiver: 8, Counter: c.n, Box: box}, 6, plain)
		if want := (pair.Pair{Keys: exchanged(p.Keys), Born: 5, Window: took(t, c.n)}); other != want {
			t.Errorf("%d: %v, want %v", c.n, other, want)
		}
	}
}

// P20.2: each length: what is a multiple of 16, of 1516 bytes at most, is sealed, and goes through the net.
func TestSealLengths(t *testing.T) {
	a, b := both(t, 0)
	for n := range 1700 {
		plain := row(n, n)
		if n%16 != 0 || n > api.MaxPacket+16 {
			unsealed(t, a, plain, 0, api.ErrForm)
			continue
		}
		q, m := seal(t, a, plain, 0)
		if want := sealed(key(1), 4, a.Sent, plain); m.Receiver != 4 || m.Counter != a.Sent || !bytes.Equal(m.Box, want.Box) {
			t.Errorf("%d: %v, want %v", n, m, want)
		}
		net, e := wire.WriteData(m)
		if e != api.OK {
			t.Fatalf("%d: %v", n, e)
		}
		came, e := wire.ReadData(net)
		if e != api.OK {
			t.Fatalf("%d: %v", n, e)
		}
		a, b = q, open(t, b, came, 0, plain)
	}
	if want := uint64(1504/16 + 1); a.Sent != want || b.Window.Next() != want || b.Sent != 0 || a.Window != (window.Window{}) {
		t.Errorf("%v %v", a, b)
	}
	for _, n := range []int{1520, 1536, 65536, 65552, 65537, 1 << 20} {
		unsealed(t, a, make([]byte, n), 0, api.ErrForm)
	}
}

// P20.2: packets that the tunnel fills up are sealed, the longest one, too.
func TestSealFilled(t *testing.T) {
	a, b := both(t, 0)
	for _, n := range []int{0, 1, 15, 16, 17, 100, 1488, 1489, 1499, 1500} {
		filled, e := inner.Fill(row(n, n))
		if e != api.OK {
			t.Fatal(e)
		}
		q, m := seal(t, a, filled, 1)
		a, b = q, open(t, b, m, 1, filled)
	}
}

// P20.2: what is told first, where several errors apply.
func TestSealOrder(t *testing.T) {
	for _, sent := range []uint64{0, api.RejectMessages - 1, api.RejectMessages, api.RejectMessages + 1, math.MaxUint64} {
		for _, n := range []int{0, 15, 16, 17, 1504, 1520} {
			for _, now := range []int64{-1, 999, 1000, 180999, 181000} {
				p := born(t, keys(), 1000)
				p.Sent = sent
				switch {
				case now < 1000 || now == 181000:
					unsealed(t, p, make([]byte, n), now, api.ErrOld)
				case sent >= api.RejectMessages:
					unsealed(t, p, make([]byte, n), now, api.ErrSpent)
				case n%16 != 0 || n > 1516:
					unsealed(t, p, make([]byte, n), now, api.ErrForm)
				default:
					q, m := seal(t, p, make([]byte, n), now)
					if q.Sent != sent+1 || m.Counter != sent {
						t.Errorf("%d: %v %v", sent, q, m)
					}
				}
			}
		}
	}
}

// P20.2, P20.5: numbers are counted from 0 on, each once, and end at the last one; what is not sealed takes none.
func TestSealNumbers(t *testing.T) {
	p := born(t, keys(), 0)
	for n := range uint64(400) {
		if n%3 == 0 {
			unsealed(t, p, make([]byte, 5), 0, api.ErrForm)
			unsealed(t, p, nil, api.RejectAfter, api.ErrOld)
		}
		q, m := seal(t, p, nil, int64(n))
		if m.Counter != n || q.Sent != n+1 {
			t.Fatalf("%d: %v", n, m)
		}
		p = q
	}
	p.Sent = api.RejectMessages - 2
	for n := range uint64(2) {
		q, m := seal(t, p, nil, 0)
		if m.Counter != api.RejectMessages-2+n {
			t.Errorf("%d", m.Counter)
		}
		p = q
	}
	for range 3 {
		unsealed(t, p, nil, 0, api.ErrSpent)
	}
	// It opens all the same.
	open(t, p, sealed(key(2), 3, 0, nil), 0, nil)
}

// P20.2: each of the keys' fields has its own part; a box hangs on the key to send, the number and the text alone.
func TestSealParts(t *testing.T) {
	plain := row(5, 32)
	_, m := seal(t, born(t, keys(), 0), plain, 0)
	other := keys()
	other.Receive, other.Local, other.First = key(7), 99, false
	p := born(t, other, 77)
	p.Window = took(t, 5, 6)
	if _, n := seal(t, p, plain, 100); n.Receiver != m.Receiver || n.Counter != m.Counter || !bytes.Equal(n.Box, m.Box) {
		t.Errorf("%v, want %v", n, m)
	}
	other = keys()
	other.Remote = math.MaxUint32
	if _, n := seal(t, born(t, other, 0), plain, 0); n.Receiver != math.MaxUint32 || !bytes.Equal(n.Box, m.Box) {
		t.Errorf("%v, want %v", n, m)
	}
	for i := range 32 {
		other = keys()
		other.Send[i] ^= 1
		if _, n := seal(t, born(t, other, 0), plain, 0); bytes.Equal(n.Box, m.Box) {
			t.Errorf("byte %d of the key does not count", i)
		}
	}
}

// P20.3: what is opened, and what the pair is then, of numbers at their edges.
func TestOpen(t *testing.T) {
	for _, n := range []uint64{0, 1, 127, 128, 129, 1 << 32, 1 << 60, 1 << 63, api.RejectMessages - 1} {
		for _, size := range []int{0, 16, 32, 1504} {
			p := born(t, keys(), 1000)
			p.Sent = 7
			want := p
			want.Window = took(t, n)
			for _, now := range []int64{1000, 180999} {
				if q := open(t, p, sealed(key(2), 3, n, row(size, size)), now, row(size, size)); q != want {
					t.Errorf("%d: %v, want %v", n, q, want)
				}
			}
		}
	}
}

// P20.3: each error, and what is told first, where several apply.
func TestOpenOrder(t *testing.T) {
	for _, receiver := range []uint32{3, 4, 0, 2, 1<<31 + 3, math.MaxUint32} {
		for _, now := range []int64{-1, 999, 1000, 180999, 181000, api.MaxTime + 1} {
			for _, n := range []uint64{0, 71, 72, 73, 150, 199, 200, 201, api.RejectMessages - 1, api.RejectMessages, math.MaxUint64} {
				for _, opens := range []bool{true, false} {
					p := born(t, keys(), 1000)
					p.Window = took(t, 150, 200)
					m := sealed(key(2), receiver, n, row(1, 16))
					if !opens {
						m.Box[31] ^= 1
					}
					switch {
					case receiver != 3:
						unopened(t, p, m, now, api.ErrIndex)
					case now < 1000 || now > 180999:
						unopened(t, p, m, now, api.ErrOld)
					case n >= api.RejectMessages:
						unopened(t, p, m, now, api.ErrSpent)
					case n <= 72 || n == 150 || n == 200:
						unopened(t, p, m, now, api.ErrReplay)
					case !opens:
						unopened(t, p, m, now, api.ErrTag)
					default:
						want := p
						want.Window, _ = p.Window.Take(n)
						if q := open(t, p, m, now, row(1, 16)); q != want {
							t.Errorf("%d: %v, want %v", n, q, want)
						}
					}
				}
			}
		}
	}
}

// P20.3: a Box that does not open, for whatever reason: its bytes, its length, its number, its key, an open text.
func TestOpenTag(t *testing.T) {
	p, plain := born(t, keys(), 0), row(3, 32)
	m := sealed(key(2), 3, 5, plain)
	for i := range m.Box {
		turned := m
		turned.Box = slices.Clone(m.Box)
		turned.Box[i] ^= 1 << (i % 8)
		unopened(t, p, turned, 0, api.ErrTag)
		turned.Box = m.Box[:i]
		unopened(t, p, turned, 0, api.ErrTag)
		turned.Box = m.Box[i+1:]
		unopened(t, p, turned, 0, api.ErrTag)
	}
	for _, box := range [][]byte{nil, {}, append(slices.Clone(m.Box), 0), make([]byte, 16), make([]byte, 1532), make([]byte, 1<<17)} {
		unopened(t, p, wire.DataMsg{Receiver: 3, Counter: 5, Box: box}, 0, api.ErrTag)
	}
	for _, n := range []uint64{0, 4, 6, 5 << 8, 5 << 32, 1<<63 + 5} {
		turned := m
		turned.Counter = n
		unopened(t, p, turned, 0, api.ErrTag)
	}
	for _, k := range []api.Key{{}, key(1), key(3)} {
		unopened(t, p, sealed(k, 3, 5, plain), 0, api.ErrTag)
	}
	box, _ := aead.Seal(key(2), aead.Counter(5), plain, []byte{0})
	unopened(t, p, wire.DataMsg{Receiver: 3, Counter: 5, Box: box}, 0, api.ErrTag)
	// Nothing of all that took the number.
	open(t, p, m, 0, plain)
}

// P20.3: a Box that opens is opened, whatever its text's length.
func TestOpenAnyLength(t *testing.T) {
	for _, n := range []int{1, 5, 15, 17, 1500, 1504, 1516, 1517, 1520, 1600} {
		p := born(t, keys(), 0)
		open(t, p, sealed(key(2), 3, 9, row(n, n)), 0, row(n, n))
	}
}

// P20.4: what is sealed does not open with the keys as they are, nor for another number of a handshake.
func TestNotExchanged(t *testing.T) {
	a, b := both(t, 0)
	_, m := seal(t, a, row(1, 16), 0)
	unopened(t, a, m, 0, api.ErrIndex)
	m.Receiver = 3
	unopened(t, a, m, 0, api.ErrTag)
	unopened(t, b, m, 0, api.ErrIndex)
	m.Receiver = 4
	open(t, b, m, 0, row(1, 16))
}

// P20.4, P20.3: once each, in whatever order they come, and both ways; what comes too late, or again, is told, as the window tells it.
func TestAnyOrder(t *testing.T) {
	r := rand.New(rand.NewPCG(20, 4))
	for range 30 {
		a, b := both(t, 50)
		var sent []wire.DataMsg
		for n := range 300 {
			var m wire.DataMsg
			a, m = seal(t, a, row(n, n%5*16), 60)
			sent = append(sent, m)
		}
		// Each moves by so much at most, so that some come too late where it is much.
		reach := []int{1, 2, 20, 127, 300}[r.IntN(5)]
		places := make([]int, len(sent))
		for i := range sent {
			places[i] = i*1000 + r.IntN(reach*1000)
		}
		order := make([]int, len(sent))
		for i := range order {
			order[i] = i
		}
		slices.SortFunc(order, func(i, j int) int { return places[i] - places[j] })
		var w window.Window
		for _, n := range order {
			want := w.Check(uint64(n))
			if reach <= 127 && want != api.OK {
				t.Fatalf("%d: %v", n, want)
			}
			if want == api.OK {
				w, _ = w.Take(uint64(n))
				b = open(t, b, sent[n], 70, row(n, n%5*16))
			}
			if b.Window != w {
				t.Fatalf("%d: %v, want %v", n, b.Window, w)
			}
			unopened(t, b, sent[n], 70, api.ErrReplay)
			if n%7 == 0 {
				// The other side says something, too.
				var m wire.DataMsg
				b, m = seal(t, b, row(n, 48), 71)
				a = open(t, a, m, 72, row(n, 48))
			}
		}
		for n := range sent {
			unopened(t, b, sent[n], 80, api.ErrReplay)
		}
	}
}

// P20.4, P3: behind a handshake both sides open what the other one seals.
func TestHandshake(t *testing.T) {
	s, hello, e := noise.Begin(key(1), curve.Public(key(2)), key(3), [12]byte{1}, 100)
	if e != api.OK {
		t.Fatal(e)
	}
	u, _, e := noise.Hear(key(2), hello)
	if e != api.OK {
		t.Fatal(e)
	}
	k, answer, e := noise.Reply(u, key(5), key(4), 200)
	if e != api.OK {
		t.Fatal(e)
	}
	l, e := noise.Finish(s, key(1), key(5), answer)
	if e != api.OK {
		t.Fatal(e)
	}
	a, b := born(t, l, 10), born(t, k, 11)
	for n := range 20 {
		var m wire.DataMsg
		a, m = seal(t, a, row(n, 16*n), 20)
		b = open(t, b, m, 21, row(n, 16*n))
		b, m = seal(t, b, row(n+50, 16*n), 22)
		a = open(t, a, m, 23, row(n+50, 16*n))
	}
	if a.Sent != 20 || b.Sent != 20 || a.Window != b.Window || !a.Tired(120010) || b.Tired(120011) {
		t.Errorf("%v %v", a, b)
	}
}

// P20.6: from its birth on a pair that is too old stays so, to the end of all times, whatever it did.
func TestStaysOld(t *testing.T) {
	for _, at := range births() {
		p := born(t, keys(), at)
		p.Sent, p.Window = 5, took(t, 1)
		for _, from := range []int64{at + 180000, at + 200000, api.MaxTime - 5, api.MaxTime, api.MaxTime + 1} {
			for later := from; later < from+10; later++ {
				if later-at >= 180000 || later > api.MaxTime {
					if !p.Old(later) || !p.Tired(later) {
						t.Errorf("born at %d: not old at %d", at, later)
					}
					unsealed(t, p, nil, later, api.ErrOld)
					unopened(t, p, sealed(key(2), 3, 9, nil), later, api.ErrOld)
				}
			}
		}
	}
}

// What is handed in is not changed, nor what lies behind it, and not kept; a pair is a value, which calls leave as it is.
func TestMemory(t *testing.T) {
	a, b := both(t, 0)
	wasA, wasB := a, b
	whole := append(row(1, 64), bytes.Repeat([]byte{255}, 64)...)
	kept := slices.Clone(whole)
	_, m := seal(t, a, whole[:64], 0)
	_, n := seal(t, a, whole[:64], 0)
	if !bytes.Equal(whole, kept) || a != wasA {
		t.Error("Seal changed what it was handed")
	}
	box := slices.Clone(m.Box)
	clear(n.Box[:cap(n.Box)])
	clear(whole)
	if !bytes.Equal(m.Box, box) {
		t.Error("boxes share memory")
	}
	wide := append(slices.Clone(m.Box), bytes.Repeat([]byte{255}, 64)...)
	kept = slices.Clone(wide)
	m.Box = wide[:len(m.Box)]
	_, one, _ := b.Open(m, 0)
	_, two, _ := b.Open(m, 0)
	if !bytes.Equal(wide, kept) || b != wasB {
		t.Error("Open changed what it was handed")
	}
	clear(two[:cap(two)])
	clear(wide)
	if !bytes.Equal(one, row(1, 64)) {
		t.Error("texts share memory")
	}
}

// P1: pairs that no call made: they seal and open by what they are; of a birth that is no time what lies between is told all the same.
func TestMadeByHand(t *testing.T) {
	var p pair.Pair
	if p.Old(0) || p.Tired(0) || !p.Old(180000) {
		t.Error("the pair of noughts")
	}
	q, m := seal(t, p, nil, 0)
	open(t, q, m, 0, nil)
	for _, at := range noTimes() {
		for _, now := range append(births(), noTimes()...) {
			p := pair.Pair{Keys: keys(), Born: at, Sent: math.MaxUint64}
			if !p.Tired(now) {
				t.Errorf("born at %d: not tired at %d", at, now)
			}
			if at > api.MaxTime || at <= -180000 || now >= 180000 || !isTime(now) {
				if !p.Old(now) {
					t.Errorf("born at %d: not old at %d", at, now)
				}
				unsealed(t, p, nil, now, api.ErrOld)
				unopened(t, p, sealed(key(2), 3, 0, nil), now, api.ErrOld)
			} else {
				unsealed(t, p, nil, now, api.ErrSpent)
			}
		}
	}
}

// The chapter's example.
func TestExample(t *testing.T) {
	p := born(t, keys(), 0)
	if p.Old(179999) || !p.Old(180000) {
		t.Error("Old")
	}
}
