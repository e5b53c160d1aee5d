package staged_test

import (
	"bytes"
	"math"
	"math/rand/v2"
	"slices"
	"testing"

	"adit/api"
	"adit/staged"
)

// row is n ordinary bytes, unlike for each seed.
func row(seed, n int) []byte {
	out := make([]byte, n)
	for i := range out {
		out[i] = byte((seed+3)*(i+5)*(i+seed+11)/3 + seed)
	}
	return out
}

// wrongOwners are numbers that are no owners.
func wrongOwners() []int {
	return []int{0, -1, -2, -16, math.MinInt, math.MinInt + 1, api.MaxPeers + 1, api.MaxPeers + 2, 2 * api.MaxPeers, 1 << 32, 1<<32 + 1, math.MaxInt}
}

// put holds what Put answers of a packet that is put in.
func put(t *testing.T, y *staged.Yard, owner int, b []byte, number uint64, threw bool) {
	t.Helper()
	if n, some, e := y.Put(owner, b); n != number || some != threw || e != api.OK {
		t.Fatalf("Put(%d, %d bytes): %d %v %v, want %d %v", owner, len(b), n, some, e, number, threw)
	}
}

// noPut holds what Put answers of a packet that is not put in.
func noPut(t *testing.T, y *staged.Yard, owner int, b []byte, want api.Errno) {
	t.Helper()
	if n, some, e := y.Put(owner, b); n != 0 || some || e != want {
		t.Fatalf("Put(%d, %d bytes): %d %v %v, want %v", owner, len(b), n, some, e, want)
	}
}

// take holds which packet is an owner's first one.
func take(t *testing.T, y *staged.Yard, owner int, number uint64, b []byte) {
	t.Helper()
	p, some := y.Take(owner)
	if p.Number != number || !bytes.Equal(p.B, b) || !some {
		t.Fatalf("Take(%d): %d, %d bytes, %v, want %d, %d bytes", owner, p.Number, len(p.B), some, number, len(b))
	}
}

// noTake holds that no packet of an owner waits.
func noTake(t *testing.T, y *staged.Yard, owner int) {
	t.Helper()
	if p, some := y.Take(owner); p.Number != 0 || len(p.B) != 0 || some {
		t.Fatalf("Take(%d): %v %v, want none", owner, p, some)
	}
}

// same tells whether packets are the same.
func same(a, b []staged.Packet) bool {
	return slices.EqualFunc(a, b, func(p, q staged.Packet) bool { return p.Number == q.Number && bytes.Equal(p.B, q.B) })
}

// takeAll holds which packets of an owner wait.
func takeAll(t *testing.T, y *staged.Yard, owner int, want ...staged.Packet) {
	t.Helper()
	if got := y.TakeAll(owner); !same(got, want) {
		t.Fatalf("TakeAll(%d): %v, want %v", owner, got, want)
	}
}

// drop holds how many packets of an owner are thrown away.
func drop(t *testing.T, y *staged.Yard, owner, want int) {
	t.Helper()
	if got := y.Drop(owner); got != want {
		t.Fatalf("Drop(%d): %d, want %d", owner, got, want)
	}
}

// waits holds how many packets of an owner wait.
func waits(t *testing.T, y *staged.Yard, owner, want int) {
	t.Helper()
	if got := y.Waits(owner); got != want {
		t.Fatalf("Waits(%d): %d, want %d", owner, got, want)
	}
}

// counts holds how many packets wait, and how many were thrown away.
func counts(t *testing.T, y *staged.Yard, all int, thrown uint64) {
	t.Helper()
	if a, n := y.All(), y.Thrown(); a != all || n != thrown {
		t.Fatalf("All, Thrown: %d %d, want %d %d", a, n, all, thrown)
	}
}

// The chapter's example.
func TestExample(t *testing.T) {
	y := staged.New()
	for n := range uint64(8) {
		put(t, y, 1, row(int(n), 20), n+1, false)
	}
	put(t, y, 1, row(8, 20), 9, true)
	take(t, y, 1, 2, row(1, 20))
}

// P22.1: a yard that is new has no packets.
func TestNew(t *testing.T) {
	y := staged.New()
	if y == nil {
		t.Fatal("New: nil")
	}
	for owner := -1; owner <= api.MaxPeers+1; owner++ {
		waits(t, y, owner, 0)
		noTake(t, y, owner)
		takeAll(t, y, owner)
		drop(t, y, owner, 0)
	}
	counts(t, y, 0, 0)
	put(t, y, 1, nil, 1, false)
}

// P22.1: yards that are nil, or that no call made; ErrNil is told ahead of all else.
func TestNil(t *testing.T) {
	for _, y := range []*staged.Yard{nil, {}, new(staged.Yard)} {
		for range 2 {
			for _, owner := range append(wrongOwners(), 1, 2, api.MaxPeers) {
				for _, n := range []int{0, 1, api.MaxPacket, api.MaxPacket + 1} {
					noPut(t, y, owner, make([]byte, n), api.ErrNil)
				}
				noTake(t, y, owner)
				takeAll(t, y, owner)
				drop(t, y, owner, 0)
				waits(t, y, owner, 0)
			}
			counts(t, y, 0, 0)
		}
	}
}

// P1: a yard that is copied by its value ends each call, as the one that it is a copy of does.
func TestCopied(t *testing.T) {
	y := staged.New()
	for n := range 3 * api.MaxStaged {
		y.Put(1+n%2, row(n, 3))
	}
	c := *y
	for n := range 3 * api.MaxStaged {
		c.Take(1)
		y.Take(1)
		y.Put(1+n%3, nil)
		c.Put(1+n%2, nil)
		c.Drop(2)
		y.TakeAll(2)
	}
	c.TakeAll(1)
	y.Drop(1)
	waits(t, y, 1, 0)
	waits(t, &c, 1, 0)
}

// P22.1: yards have nothing in common.
func TestTwoYards(t *testing.T) {
	y, z := staged.New(), staged.New()
	put(t, y, 1, row(1, 9), 1, false)
	put(t, y, 1, row(2, 9), 2, false)
	counts(t, z, 0, 0)
	noTake(t, z, 1)
	put(t, z, 1, row(3, 9), 1, false)
	drop(t, z, 1, 1)
	counts(t, y, 2, 0)
	counts(t, z, 0, 1)
	take(t, y, 1, 1, row(1, 9))
}

// P22.1: owners 1 and MaxPeers have packets, those beyond have none; ErrArg is told ahead of ErrLong.
func TestOwners(t *testing.T) {
	y := staged.New()
	number := uint64(0)
	for owner := 1; owner <= api.MaxPeers; owner++ {
		number++
		put(t, y, owner, row(owner, owner), number, false)
	}
	for _, owner := range wrongOwners() {
		for _, n := range []int{0, 1, api.MaxPacket, api.MaxPacket + 1} {
			noPut(t, y, owner, make([]byte, n), api.ErrArg)
		}
		noTake(t, y, owner)
		takeAll(t, y, owner)
		drop(t, y, owner, 0)
		waits(t, y, owner, 0)
	}
	counts(t, y, api.MaxPeers, 0)
	put(t, y, api.MaxPeers, nil, number+1, false)
	for owner := 1; owner <= api.MaxPeers; owner++ {
		take(t, y, owner, uint64(owner), row(owner, owner))
	}
	take(t, y, api.MaxPeers, number+1, nil)
	counts(t, y, 0, 0)
}

// P22.1: packets of all sizes up to MaxPacket, and of one byte more.
func TestSizes(t *testing.T) {
	y := staged.New()
	number := uint64(0)
	for _, n := range []int{0, 1, 2, 15, 16, 17, 255, 256, 1279, 1280, api.MaxPacket - 1, api.MaxPacket} {
		number++
		put(t, y, 3, row(n, n), number, false)
		take(t, y, 3, number, row(n, n))
	}
	number++
	put(t, y, 3, nil, number, false)
	take(t, y, 3, number, nil)
	for _, n := range []int{api.MaxPacket + 1, api.MaxPacket + 16, 2 * api.MaxPacket, 1 << 20} {
		noPut(t, y, 3, make([]byte, n), api.ErrLong)
	}
	counts(t, y, 0, 0)
	put(t, y, 3, nil, number+1, false)
}

// P22.1: a packet that is refused changes nothing: no number, no place, nothing thrown away, though the owner has MaxStaged.
func TestRefused(t *testing.T) {
	y := staged.New()
	var want []staged.Packet
	for n := range api.MaxStaged {
		put(t, y, 2, row(n, 5), uint64(n+1), false)
		want = append(want, staged.Packet{Number: uint64(n + 1), B: row(n, 5)})
		noPut(t, y, 2, make([]byte, api.MaxPacket+1), api.ErrLong)
		noPut(t, y, 0, nil, api.ErrArg)
		noPut(t, y, api.MaxPeers+1, nil, api.ErrArg)
		waits(t, y, 2, n+1)
		counts(t, y, n+1, 0)
	}
	put(t, y, 5, nil, api.MaxStaged+1, false)
	takeAll(t, y, 2, want...)
	counts(t, y, 1, 0)
}

// P22.1: numbers are counted over all owners, from 1 on, whatever came out or was thrown away between.
func TestNumbers(t *testing.T) {
	y := staged.New()
	put(t, y, 4, row(1, 1), 1, false)
	put(t, y, 7, row(2, 2), 2, false)
	put(t, y, 4, row(3, 3), 3, false)
	take(t, y, 4, 1, row(1, 1))
	put(t, y, 16, row(4, 4), 4, false)
	drop(t, y, 7, 1)
	put(t, y, 7, row(5, 5), 5, false)
	takeAll(t, y, 4, staged.Packet{Number: 3, B: row(3, 3)})
	put(t, y, 4, row(6, 6), 6, false)
	take(t, y, 7, 5, row(5, 5))
	take(t, y, 16, 4, row(4, 4))
	take(t, y, 4, 6, row(6, 6))
	put(t, y, 1, nil, 7, false)
	counts(t, y, 1, 1)
}

// P22.1, P22.2: MaxStaged packets of one owner wait; one more throws the first one away, and so on; the others' stay.
func TestThrown(t *testing.T) {
	y := staged.New()
	put(t, y, 2, row(99, 9), 1, false)
	for n := range 5 * api.MaxStaged {
		threw := n >= api.MaxStaged
		put(t, y, 1, row(n, n), uint64(n+2), threw)
		left := min(n+1, api.MaxStaged)
		waits(t, y, 1, left)
		waits(t, y, 2, 1)
		counts(t, y, left+1, uint64(n+1-left))
	}
	for n := 4 * api.MaxStaged; n < 5*api.MaxStaged; n++ {
		take(t, y, 1, uint64(n+2), row(n, n))
	}
	noTake(t, y, 1)
	take(t, y, 2, 1, row(99, 9))
	counts(t, y, 0, 4*api.MaxStaged)
}

// P22.1, P22.2: of each number of packets that were put in, the last ones come, in order, by TakeAll as by Take.
func TestLastOnesCome(t *testing.T) {
	for n := range 4 * api.MaxStaged {
		for taken := range api.MaxStaged + 1 {
			y := staged.New()
			for i := range n {
				y.Put(6, row(i, i%7))
			}
			var want []staged.Packet
			for i := max(0, n-api.MaxStaged); i < n; i++ {
				want = append(want, staged.Packet{Number: uint64(i + 1), B: row(i, i%7)})
			}
			for _, p := range want[:min(taken, len(want))] {
				take(t, y, 6, p.Number, p.B)
			}
			left := want[min(taken, len(want)):]
			waits(t, y, 6, len(left))
			takeAll(t, y, 6, left...)
			waits(t, y, 6, 0)
			takeAll(t, y, 6)
			noTake(t, y, 6)
			counts(t, y, 0, uint64(n-len(want)))
			put(t, y, 6, row(1, 1), uint64(n+1), false)
			takeAll(t, y, 6, staged.Packet{Number: uint64(n + 1), B: row(1, 1)})
		}
	}
}

// P22.1: what was taken makes room: behind it nothing is thrown away till there are more than MaxStaged again.
func TestRoomAgain(t *testing.T) {
	for taken := range api.MaxStaged + 1 {
		y := staged.New()
		number := uint64(0)
		for range api.MaxStaged + 3 {
			number++
			put(t, y, 1, nil, number, number > api.MaxStaged)
		}
		for n := range taken {
			take(t, y, 1, uint64(n+4), nil)
		}
		for n := range api.MaxStaged {
			number++
			put(t, y, 1, nil, number, n >= taken)
		}
		waits(t, y, 1, api.MaxStaged)
		counts(t, y, api.MaxStaged, uint64(3+api.MaxStaged-taken))
		take(t, y, 1, number-api.MaxStaged+1, nil)
	}
}

// P22.1, P22.3: Drop throws all of one owner away, tells how many, and counts them.
func TestDrop(t *testing.T) {
	for n := range api.MaxStaged + 3 {
		y := staged.New()
		put(t, y, 8, row(8, 8), 1, false)
		for i := range n {
			y.Put(9, row(i, 4))
		}
		left := min(n, api.MaxStaged)
		drop(t, y, 9, left)
		drop(t, y, 9, 0)
		waits(t, y, 9, 0)
		noTake(t, y, 9)
		takeAll(t, y, 9)
		counts(t, y, 1, uint64(n))
		put(t, y, 9, row(5, 5), uint64(n+2), false)
		take(t, y, 9, uint64(n+2), row(5, 5))
		take(t, y, 8, 1, row(8, 8))
		counts(t, y, 0, uint64(n))
	}
}

// P22.1: what is taken is not thrown away.
func TestTakenIsNotThrown(t *testing.T) {
	y := staged.New()
	for n := range uint64(3) {
		put(t, y, 1, nil, n+1, false)
	}
	take(t, y, 1, 1, nil)
	counts(t, y, 2, 0)
	takeAll(t, y, 1, staged.Packet{Number: 2}, staged.Packet{Number: 3})
	counts(t, y, 0, 0)
	drop(t, y, 1, 0)
	counts(t, y, 0, 0)
}

// P22.1: all owners may have MaxStaged packets at once, and do not touch each other.
func TestAllOwners(t *testing.T) {
	y := staged.New()
	number := uint64(0)
	for n := range api.MaxStaged {
		for owner := 1; owner <= api.MaxPeers; owner++ {
			number++
			put(t, y, owner, row(owner, n), number, false)
			counts(t, y, int(number), 0)
		}
	}
	put(t, y, 5, row(1, 1), number+1, true)
	counts(t, y, int(number), 1)
	for owner := 1; owner <= api.MaxPeers; owner++ {
		waits(t, y, owner, api.MaxStaged)
		n := 0
		if owner == 5 {
			n = 1
		}
		take(t, y, owner, uint64(n*api.MaxPeers+owner), row(owner, n))
	}
	drop(t, y, 16, 7)
	counts(t, y, int(number)-api.MaxPeers-7, 8)
}

// P22.1: bytes that are changed behind Put, within their length or behind it, change no packet; Put changes none of them.
func TestChangedBehindPut(t *testing.T) {
	y := staged.New()
	memory := row(1, 64)
	for n := range api.MaxStaged {
		put(t, y, 1, memory[n:n+16], uint64(n+1), false)
	}
	if !bytes.Equal(memory, row(1, 64)) {
		t.Fatal("Put changed what it was handed")
	}
	clear(memory)
	for n := range api.MaxStaged {
		take(t, y, 1, uint64(n+1), row(1, 64)[n:n+16])
	}
	b := row(2, 30)
	put(t, y, 1, b, api.MaxStaged+1, false)
	b[7]++
	put(t, y, 1, b, api.MaxStaged+2, false)
	take(t, y, 1, api.MaxStaged+1, row(2, 30))
	take(t, y, 1, api.MaxStaged+2, b)
}

// P22.1: bytes that are changed behind Take or TakeAll, within their length or behind it, change no packet that waits or comes, and nothing that was handed in.
func TestChangedBehindTake(t *testing.T) {
	y := staged.New()
	in := row(3, 20)
	for n := range 4 {
		put(t, y, 1, in, uint64(n+1), false)
	}
	p, _ := y.Take(1)
	clear(p.B)
	p.B = append(p.B, 1, 2, 3)
	if !bytes.Equal(in, row(3, 20)) {
		t.Fatal("what was taken is what was handed in")
	}
	l := y.TakeAll(1)
	if len(l) != 3 {
		t.Fatalf("TakeAll: %d packets", len(l))
	}
	clear(l[0].B)
	l[0].B = append(l[0].B, 9)
	if !bytes.Equal(l[1].B, row(3, 20)) || !bytes.Equal(l[2].B, row(3, 20)) || !bytes.Equal(in, row(3, 20)) {
		t.Fatal("packets share their bytes")
	}
	clear(l)
	put(t, y, 1, in, 5, false)
	put(t, y, 1, row(4, 20), 6, false)
	l = append(l[:0], staged.Packet{Number: 77})
	takeAll(t, y, 1, staged.Packet{Number: 5, B: row(3, 20)}, staged.Packet{Number: 6, B: row(4, 20)})
	if l[0].Number != 77 {
		t.Error("the list is the yard's")
	}
}

// P22.1: what was handed out stays as it was, whatever is put in later, and has no room behind that holds other bytes.
func TestTakenStays(t *testing.T) {
	y := staged.New()
	put(t, y, 1, row(1, 33)[:9], 1, false)
	put(t, y, 1, row(2, 33), 2, false)
	p, _ := y.Take(1)
	l := y.TakeAll(1)
	for n := range 4 * api.MaxStaged {
		y.Put(1, row(n, 33))
	}
	if !bytes.Equal(p.B, row(1, 33)[:9]) || !same(l, []staged.Packet{{Number: 2, B: row(2, 33)}}) {
		t.Fatal("what was handed out was changed")
	}
	for _, b := range p.B[len(p.B):cap(p.B)] {
		if b != 0 {
			t.Fatal("what lay behind was handed out")
		}
	}
}

// P22.1: to ask how many wait changes nothing.
func TestAsked(t *testing.T) {
	y := staged.New()
	put(t, y, 3, row(3, 3), 1, false)
	for range 3 {
		waits(t, y, 3, 1)
		waits(t, y, 4, 0)
		counts(t, y, 1, 0)
	}
	take(t, y, 3, 1, row(3, 3))
}

// model is a yard that keeps lists.
type model struct {
	lists       [api.MaxPeers + 1][]staged.Packet
	last, taken uint64
	thrown      uint64
}

func (m *model) put(owner int, b []byte) bool {
	m.last++
	m.lists[owner] = append(m.lists[owner], staged.Packet{Number: m.last, B: bytes.Clone(b)})
	if len(m.lists[owner]) <= api.MaxStaged {
		return false
	}
	m.lists[owner] = m.lists[owner][1:]
	m.thrown++
	return true
}

func (m *model) all() int {
	n := 0
	for _, l := range m.lists {
		n += len(l)
	}
	return n
}

// step does one call on a yard and its model.
func (m *model) step(t *testing.T, y *staged.Yard, random *rand.Rand, owner int) {
	t.Helper()
	list := m.lists[owner]
	switch random.IntN(24) {
	case 0:
		takeAll(t, y, owner, list...)
		m.taken += uint64(len(list))
		m.lists[owner] = nil
	case 1:
		drop(t, y, owner, len(list))
		m.thrown += uint64(len(list))
		m.lists[owner] = nil
	case 2:
		noPut(t, y, owner, make([]byte, api.MaxPacket+1+random.IntN(9)), api.ErrLong)
	case 3:
		noPut(t, y, wrongOwners()[random.IntN(len(wrongOwners()))], nil, api.ErrArg)
	case 4, 5, 6, 7, 8, 9, 10:
		if len(list) == 0 {
			noTake(t, y, owner)
			break
		}
		take(t, y, owner, list[0].Number, list[0].B)
		m.lists[owner] = list[1:]
		m.taken++
	default:
		b := row(random.IntN(1000), random.IntN(40))
		threw := m.put(owner, b)
		put(t, y, owner, b, m.last, threw)
	}
}

// P22.1 to P22.3: all calls in whatever order, held against a model; what was put in came out, was thrown away, or waits.
func TestModel(t *testing.T) {
	for seed := range uint64(40) {
		random := rand.New(rand.NewPCG(22, seed))
		owners := []int{1, 3, api.MaxPeers}[seed%3]
		y, m := staged.New(), &model{}
		for range 2000 {
			owner := 1 + random.IntN(owners)
			m.step(t, y, random, owner)
			waits(t, y, owner, len(m.lists[owner]))
			counts(t, y, m.all(), m.thrown)
			if m.last != m.taken+y.Thrown()+uint64(y.All()) {
				t.Fatalf("%d were put in, %d came out, %d were thrown away, %d wait", m.last, m.taken, y.Thrown(), y.All())
			}
		}
		for owner := 1; owner <= api.MaxPeers; owner++ {
			takeAll(t, y, owner, m.lists[owner]...)
		}
		counts(t, y, 0, m.thrown)
	}
}
