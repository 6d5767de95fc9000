package tests

import (
	"math"
	"testing"

	"loop.example/g00610/impl"
)

// A smallThing answers -1 where nothing is done, also of those of the program
// that answer false then.
type smallThing struct {
	name string
	do   func(s impl.Store) (impl.Store, int64)
}

func flagged(s impl.Store, done bool) (impl.Store, int64) {
	if !done {
		return s, -1
	}
	return s, 1
}

// usedStore has a ring that is linked (0), one that is open (1), one that is
// Closed and not linked (2), and one in use that nobody leads to (3).
func usedStore() impl.Store {
	s := linkedStore(3, 5, 2, -1, -1, -1)
	s.First, s.Last = 0, 2
	s.Rings[0].Head, s.Rings[0].Tail = 7, 9
	s.Rings[0].Places = []impl.Place{full(6, 11), {No: 4}, full(8, 12)}
	s.Rings[1].Head, s.Rings[1].Tail = 1, 2
	s.Rings[1].Places[1] = full(1, 21)
	s.Rings[2].Closed = true
	s.Rings[2].Head, s.Rings[2].Tail = 5, 4
	s.Rings[3].Head, s.Rings[3].Tail = 3, 30
	s.Rings[3].Places[2] = impl.Place{No: 5, Full: true, Value: 31}
	return s
}

// onUsedStore are all eight, of which each does something with usedStore.
func onUsedStore() []smallThing {
	return []smallThing{
		{"TakeTicket", func(s impl.Store) (impl.Store, int64) { return impl.TakeTicket(s, 1) }},
		{"PutTicket", func(s impl.Store) (impl.Store, int64) { return impl.PutTicket(s, 1) }},
		{"SwapPlace", func(s impl.Store) (impl.Store, int64) {
			return flagged(impl.SwapPlace(s, 1, 1, full(1, 21), impl.Place{No: 4}))
		}},
		{"Close", func(s impl.Store) (impl.Store, int64) { return flagged(impl.Close(s, 1)) }},
		{"RaiseTail", func(s impl.Store) (impl.Store, int64) { return flagged(impl.RaiseTail(s, 1, 2, 6)) }},
		{"AddRing", func(s impl.Store) (impl.Store, int64) { return impl.AddRing(s, 5) }},
		{"Link", func(s impl.Store) (impl.Store, int64) { return flagged(impl.Link(s, 2, 1)) }},
		{"Swing First", func(s impl.Store) (impl.Store, int64) { return flagged(impl.Swing(s, false, 0, 3)) }},
		{"Swing Last", func(s impl.Store) (impl.Store, int64) { return flagged(impl.Swing(s, true, 2, 3)) }},
	}
}

// refusedOnUsedStore are all eight, of which none does anything with
// usedStore, each for each of its reasons.
func refusedOnUsedStore() []smallThing {
	return []smallThing{
		{"TakeTicket, no ring", func(s impl.Store) (impl.Store, int64) { return impl.TakeTicket(s, 4) }},
		{"PutTicket, no ring", func(s impl.Store) (impl.Store, int64) { return impl.PutTicket(s, -1) }},
		{"SwapPlace, no place", func(s impl.Store) (impl.Store, int64) {
			return flagged(impl.SwapPlace(s, 1, 3, full(1, 21), impl.Place{No: 3}))
		}},
		{"SwapPlace, not seen", func(s impl.Store) (impl.Store, int64) {
			return flagged(impl.SwapPlace(s, 1, 1, full(1, 22), impl.Place{No: 4}))
		}},
		{"SwapPlace, not right then", func(s impl.Store) (impl.Store, int64) {
			return flagged(impl.SwapPlace(s, 1, 1, full(1, 21), impl.Place{No: 3}))
		}},
		{"Close, no ring", func(s impl.Store) (impl.Store, int64) { return flagged(impl.Close(s, 4)) }},
		{"RaiseTail, Closed", func(s impl.Store) (impl.Store, int64) { return flagged(impl.RaiseTail(s, 2, 4, 6)) }},
		{"RaiseTail, not seen", func(s impl.Store) (impl.Store, int64) { return flagged(impl.RaiseTail(s, 1, 3, 6)) }},
		{"RaiseTail, not right then", func(s impl.Store) (impl.Store, int64) { return flagged(impl.RaiseTail(s, 1, 2, -1)) }},
		{"AddRing, no value", func(s impl.Store) (impl.Store, int64) { return impl.AddRing(s, 0) }},
		{"Link, no next", func(s impl.Store) (impl.Store, int64) { return flagged(impl.Link(s, 2, 4)) }},
		{"Link, linked", func(s impl.Store) (impl.Store, int64) { return flagged(impl.Link(s, 0, 1)) }},
		{"Link, round and round", func(s impl.Store) (impl.Store, int64) { return flagged(impl.Link(s, 2, 0)) }},
		{"Swing, not seen", func(s impl.Store) (impl.Store, int64) { return flagged(impl.Swing(s, true, 0, 3)) }},
		{"Swing, not right then", func(s impl.Store) (impl.Store, int64) { return flagged(impl.Swing(s, false, 0, 4)) }},
	}
}

func checkStore(t *testing.T, name string, got, want impl.Store) {
	t.Helper()
	if !sameStore(got, want) {
		t.Errorf("%s: the store is %+v, not %+v", name, got, want)
	}
}

// checkDone wants the store as usedStore is but for what change tells.
func checkDone(t *testing.T, name string, got impl.Store, done bool, change func(s *impl.Store)) {
	t.Helper()
	want := usedStore()
	change(&want)
	checkStore(t, name, got, want)
	if !done {
		t.Errorf("%s: not done", name)
	}
	checkStoreOk(t, name, got, true)
}

func checkNothing(t *testing.T, name string, got impl.Store, answer int64, was impl.Store) {
	t.Helper()
	checkStore(t, name, got, was)
	if answer != -1 {
		t.Errorf("%s: something is done", name)
	}
}

// noRings are below 0 and past the last one of n rings.
func noRings(n int64) []int64 {
	return []int64{math.MinInt64, -2, -1, n, n + 1, 15, 16, math.MaxInt64}
}

func TestSmallThingsAreDone(t *testing.T) {
	checkStoreOk(t, "the store in use", usedStore(), true)
	for _, thing := range onUsedStore() {
		got, answer := thing.do(usedStore())
		if answer == -1 || sameStore(got, usedStore()) {
			t.Errorf("%s: nothing is done", thing.name)
		}
		checkStoreOk(t, thing.name, got, true)
	}
}

func TestSmallThingsAreRefused(t *testing.T) {
	for _, thing := range refusedOnUsedStore() {
		got, answer := thing.do(usedStore())
		checkNothing(t, thing.name, got, answer, usedStore())
	}
}

func TestSmallThingsOfWhatIsNoStore(t *testing.T) {
	for name, s := range wrongStores() {
		for _, thing := range append(onUsedStore(), refusedOnUsedStore()...) {
			got, answer := thing.do(copied(s))
			checkNothing(t, thing.name+", "+name, got, answer, impl.Store{})
		}
	}
}

// Where a store is wrong, the very thing that would make it right is refused.
func TestSmallThingsDoNotMend(t *testing.T) {
	cases := []struct {
		name  string
		wrong func(s *impl.Store)
		mend  func(s impl.Store) (impl.Store, bool)
	}{
		{"a place", func(s *impl.Store) { s.Rings[1].Places[0].Value = 3 }, func(s impl.Store) (impl.Store, bool) {
			return impl.SwapPlace(s, 1, 0, impl.Place{Safe: true, Value: 3}, impl.Place{Safe: true})
		}},
		{"linked, not Closed", func(s *impl.Store) { s.Rings[0].Closed = false }, func(s impl.Store) (impl.Store, bool) {
			return impl.Close(s, 0)
		}},
		{"Tail", func(s *impl.Store) { s.Rings[1].Tail = -1 }, func(s impl.Store) (impl.Store, bool) {
			return impl.RaiseTail(s, 1, -1, 0)
		}},
		{"First", func(s *impl.Store) { s.First = 4 }, func(s impl.Store) (impl.Store, bool) {
			return impl.Swing(s, false, 4, 0)
		}},
		{"Last", func(s *impl.Store) { s.Last = -1 }, func(s impl.Store) (impl.Store, bool) {
			return impl.Swing(s, true, -1, 0)
		}},
	}
	for _, c := range cases {
		s := usedStore()
		c.wrong(&s)
		checkStoreOk(t, c.name, s, false)
		got, answer := flagged(c.mend(s))
		checkNothing(t, c.name, got, answer, impl.Store{})
	}
	s := usedStore()
	s.Rings[1].Head, s.Rings[2].Tail = -1, -1
	got, answer := impl.TakeTicket(s, 1)
	checkNothing(t, "Head", got, answer, impl.Store{})
	got, answer = impl.PutTicket(s, 2)
	checkNothing(t, "Tail of a ticket", got, answer, impl.Store{})
	s = linkedStore(2, 1, -1)
	s.Last = 1
	got, answer = impl.AddRing(s, 5)
	checkNothing(t, "the ring that Last is", got, answer, impl.Store{})
	s = linkedStore(2, 2, -1)
	s.Last = 1
	got, answer = impl.AddRing(s, 5)
	checkNothing(t, "the ring that Last is, with room", got, answer, impl.Store{})
}

func TestSmallThingsOfNoRing(t *testing.T) {
	for n := int64(1); n <= 3; n++ {
		s := linkedStore(2, 4, looseRings(n)...)
		for i := range s.Rings {
			s.Rings[i].Closed = i > 0 // those behind it could be linked
		}
		for _, ring := range noRings(n) {
			got, ticket := impl.TakeTicket(s, ring)
			checkNothing(t, "TakeTicket", got, ticket, s)
			got, ticket = impl.PutTicket(s, ring)
			checkNothing(t, "PutTicket", got, ticket, s)
			got, done := flagged(impl.SwapPlace(s, ring, 0, s.Rings[0].Places[0], full(0, 3)))
			checkNothing(t, "SwapPlace", got, done, s)
			got, done = flagged(impl.Close(s, ring))
			checkNothing(t, "Close", got, done, s)
			got, done = flagged(impl.RaiseTail(s, ring, 0, 1))
			checkNothing(t, "RaiseTail", got, done, s)
			for next := range n {
				got, done = flagged(impl.Link(s, ring, next))
				checkNothing(t, "Link", got, done, s)
			}
		}
	}
}

func TestSmallThingsShareNoMemoryWithTheArgument(t *testing.T) {
	for _, thing := range append(onUsedStore(), refusedOnUsedStore()...) {
		s := roomy(usedStore())
		kept := copied(withRoom(s))
		got, _ := thing.do(s)
		want := copied(got)
		second, _ := thing.do(s)
		spoilStore(got)
		checkStore(t, thing.name+", the argument behind a change of the answer", withRoom(s), kept)
		checkStore(t, thing.name+", another answer behind a change of the first", second, want)
		spoilStore(s)
		checkStore(t, thing.name+", the answer behind a change of the argument", second, want)
	}
}

// checkListsApart spoils the places of each ring in turn, and wants those of
// the others to stay.
func checkListsApart(t *testing.T, name string, got impl.Store) {
	t.Helper()
	for ring := range got.Rings {
		want := copied(got)
		kept := want.Rings[ring].Places
		spoil(got.Rings[ring].Places)
		want.Rings[ring].Places = got.Rings[ring].Places
		checkStore(t, name+", the other places", got, want)
		got.Rings[ring].Places = kept
	}
}

func TestSmallThingsShareNoMemoryWithinAnAnswer(t *testing.T) {
	for _, thing := range append(onUsedStore(), refusedOnUsedStore()...) {
		got, _ := thing.do(usedStore())
		checkListsApart(t, thing.name, got)
	}
}

// Two rings of the argument may well have one list of places.
func TestSmallThingsOfRingsThatShareTheirPlaces(t *testing.T) {
	for ring := range int64(2) {
		s := linkedStore(2, 2, -1, -1)
		s.Rings[1].Places = s.Rings[0].Places
		want := copied(s)
		want.Rings[ring].Places[0] = full(4, 3)
		got, done := impl.SwapPlace(s, ring, 0, impl.Place{Safe: true}, full(4, 3))
		checkStore(t, "one list of two rings", got, want)
		checkStore(t, "the argument", s, linkedStore(2, 2, -1, -1))
		if !done {
			t.Errorf("ring %d: not done", ring)
		}
	}
}

func TestSmallThingsLeaveTheirArguments(t *testing.T) {
	all := wrongStores()
	all["right"] = usedStore()
	for name, s := range all {
		for _, thing := range append(onUsedStore(), refusedOnUsedStore()...) {
			s = roomy(copied(s))
			kept := copied(withRoom(s))
			thing.do(s)
			checkStore(t, thing.name+", the argument, "+name, withRoom(s), kept)
		}
	}
}

func TestTickets(t *testing.T) {
	for ring, r := range usedStore().Rings { // 0 and 2 are Closed
		ring := int64(ring)
		got, ticket := impl.TakeTicket(usedStore(), ring)
		checkDone(t, "TakeTicket", got, ticket == r.Head, func(s *impl.Store) { s.Rings[ring].Head++ })
		got, ticket = impl.PutTicket(usedStore(), ring)
		checkDone(t, "PutTicket", got, ticket == r.Tail, func(s *impl.Store) { s.Rings[ring].Tail++ })
	}
}

func TestTicketsOneAfterTheOther(t *testing.T) {
	s, _ := impl.NewStore(2, 1)
	for want := range int64(20) {
		var head, tail int64
		s, head = impl.TakeTicket(s, 0)
		s, tail = impl.PutTicket(s, 0)
		if head != want || tail != want {
			t.Fatalf("tickets %d and %d, not %d", head, tail, want)
		}
	}
	if r := s.Rings[0]; r.Head != 20 || r.Tail != 20 {
		t.Errorf("Head %d, Tail %d", r.Head, r.Tail)
	}
}

func TestTicketsAtTheEnd(t *testing.T) {
	for _, closed := range []bool{false, true} {
		s := usedStore()
		s.Rings[1].Closed = closed
		s.Rings[1].Head, s.Rings[1].Tail = mostNo-1, mostNo-1
		want := copied(s)
		s, head := impl.TakeTicket(s, 1)
		s, tail := impl.PutTicket(s, 1)
		want.Rings[1].Head, want.Rings[1].Tail = mostNo, mostNo
		if checkStore(t, "met exactly", s, want); head != mostNo-1 || tail != mostNo-1 {
			t.Errorf("tickets %d and %d", head, tail)
		}
		got, ticket := impl.TakeTicket(s, 1)
		checkNothing(t, "TakeTicket at MaxNo", got, ticket, want)
		got, ticket = impl.PutTicket(s, 1)
		checkNothing(t, "PutTicket at MaxNo", got, ticket, want)
	}
}

// One of the two at its end does not keep the other one from going on.
func TestTicketsOfOneAtTheEnd(t *testing.T) {
	s := usedStore()
	s.Rings[1].Head = mostNo
	if _, ticket := impl.PutTicket(s, 1); ticket != 2 {
		t.Errorf("PutTicket is %d", ticket)
	}
	s = usedStore()
	s.Rings[1].Tail = mostNo
	if _, ticket := impl.TakeTicket(s, 1); ticket != 1 {
		t.Errorf("TakeTicket is %d", ticket)
	}
}

func TestSwapPlace(t *testing.T) {
	for ring, r := range usedStore().Rings {
		for at, seen := range r.Places {
			ring, at := int64(ring), int64(at)
			tos := []impl.Place{
				seen,
				{Safe: !seen.Safe, No: seen.No, Full: seen.Full, Value: seen.Value},
				{No: at},
				{Safe: true, No: at + 6},
				full(at+3, 1),
				full(at+3, mostValue),
			}
			for _, to := range tos {
				got, done := impl.SwapPlace(usedStore(), ring, at, seen, to)
				checkDone(t, "SwapPlace", got, done, func(s *impl.Store) { s.Rings[ring].Places[at] = to })
			}
		}
	}
}

func TestSwapPlaceOfNoPlace(t *testing.T) {
	for round := int64(2); round <= 8; round++ {
		s := linkedStore(round, 1, -1)
		for _, at := range []int64{math.MinInt64, -round, -1, round, round + 1, 2 * round, math.MaxInt64} {
			for _, seen := range s.Rings[0].Places {
				to := full(seen.No, 3)
				got, done := flagged(impl.SwapPlace(s, 0, at, seen, to))
				checkNothing(t, "no place", got, done, s)
			}
		}
		for at := range round {
			if _, done := impl.SwapPlace(s, 0, at, s.Rings[0].Places[at], full(at, 3)); !done {
				t.Errorf("Round %d: place %d is not swapped", round, at)
			}
		}
	}
}

func TestSwapPlaceWhereOneFieldDiffers(t *testing.T) {
	differs := map[string]func(p *impl.Place){
		"Safe":           func(p *impl.Place) { p.Safe = !p.Safe },
		"No, a round on": func(p *impl.Place) { p.No += 3 },
		"No, the next":   func(p *impl.Place) { p.No++ },
		"Full":           func(p *impl.Place) { p.Full = !p.Full },
		"Value":          func(p *impl.Place) { p.Value++ },
	}
	for name, differ := range differs {
		for ring, r := range usedStore().Rings {
			for at, seen := range r.Places {
				differ(&seen)
				got, done := flagged(impl.SwapPlace(usedStore(), int64(ring), int64(at), seen, full(int64(at)+9, 4)))
				checkNothing(t, name, got, done, usedStore())
			}
		}
	}
}

func TestSwapPlaceToWhatIsNotRight(t *testing.T) {
	tos := []impl.Place{
		{No: 1, Value: 3}, // not Full, with a Value
		{No: 1, Value: -1},
		{No: 1, Full: true}, // Full, without one
		full(1, -1),
		full(1, mostValue+1),
		full(1, math.MaxInt64),
		{No: -2}, // -2 is 1, modulo 3, but below 0
		{No: -1},
		{No: mostNo + 3}, // the first one above it that comes to place 1
		{No: math.MinInt64},
		{No: math.MaxInt64},
		{No: 0}, // another place's
		{No: 2},
		{No: 3},
		full(5, 4),
		full(mostNo-1, 4),
	}
	for _, to := range tos {
		for ring, r := range usedStore().Rings {
			got, done := flagged(impl.SwapPlace(usedStore(), int64(ring), 1, r.Places[1], to))
			checkNothing(t, "SwapPlace", got, done, usedStore())
		}
	}
}

// mostNo is 1, modulo 3.
func TestSwapPlaceToTheGreatestNo(t *testing.T) {
	to := full(mostNo, mostValue)
	got, done := impl.SwapPlace(usedStore(), 1, 1, full(1, 21), to)
	checkDone(t, "the greatest No", got, done, func(s *impl.Store) { s.Rings[1].Places[1] = to })
}

func TestClose(t *testing.T) {
	for ring := range int64(4) {
		want := func(s *impl.Store) { s.Rings[ring].Closed = true }
		once, done := impl.Close(usedStore(), ring)
		checkDone(t, "Close", once, done, want)
		twice, done := impl.Close(once, ring)
		checkDone(t, "Close again", twice, done, want)
	}
}

func TestRaiseTail(t *testing.T) {
	for _, to := range []int64{0, 1, 2, 3, 4, 500, mostNo - 1, mostNo} {
		got, done := impl.RaiseTail(usedStore(), 1, 2, to)
		checkDone(t, "RaiseTail", got, done, func(s *impl.Store) { s.Rings[1].Tail = to })
	}
	for _, to := range []int64{math.MinInt64, -2, -1, mostNo + 1, mostNo + 2, math.MaxInt64} {
		got, done := flagged(impl.RaiseTail(usedStore(), 1, 2, to))
		checkNothing(t, "out of range", got, done, usedStore())
	}
}

func TestRaiseTailNotSeen(t *testing.T) {
	for _, seen := range []int64{math.MinInt64, -2, -1, 0, 1, 3, 4, mostNo, mostNo + 1, math.MaxInt64} {
		for _, to := range []int64{2, 5, seen} {
			got, done := flagged(impl.RaiseTail(usedStore(), 1, seen, to))
			checkNothing(t, "not seen", got, done, usedStore())
		}
	}
}

func TestRaiseTailClosed(t *testing.T) {
	for _, ring := range []int64{0, 2} {
		tail := usedStore().Rings[ring].Tail
		for _, seen := range []int64{tail, tail + 1} {
			for _, to := range []int64{tail, tail + 1, mostNo} {
				got, done := flagged(impl.RaiseTail(usedStore(), ring, seen, to))
				checkNothing(t, "Closed", got, done, usedStore())
			}
		}
	}
	for _, ring := range []int64{1, 3} {
		tail := usedStore().Rings[ring].Tail
		got, done := impl.RaiseTail(usedStore(), ring, tail, tail)
		checkDone(t, "not Closed, to what it is", got, done, func(*impl.Store) {})
	}
}

func seededRing(round, value int64) impl.Ring {
	r := numberedRing(round)
	r.Places[0] = full(0, value)
	r.Tail = 1
	return r
}

func TestAddRing(t *testing.T) {
	for _, value := range []int64{1, 2, 7, mostValue - 1, mostValue} {
		got, ring := impl.AddRing(usedStore(), value)
		checkDone(t, "AddRing", got, ring == 4, func(s *impl.Store) { s.Rings = append(s.Rings, seededRing(3, value)) })
	}
	for _, value := range []int64{math.MinInt64, -2, -1, 0, mostValue + 1, mostValue + 2, math.MaxInt64} {
		got, ring := impl.AddRing(usedStore(), value)
		checkNothing(t, "no value", got, ring, usedStore())
	}
}

func TestAddRingTillThereAreMost(t *testing.T) {
	for round := int64(2); round <= 8; round++ {
		for most := int64(1); most <= mostRings; most++ {
			s := linkedStore(round, most, -1)
			want := copied(s)
			for ring := int64(1); ring < most; ring++ {
				var which int64
				s, which = impl.AddRing(s, 100+ring)
				want.Rings = append(want.Rings, seededRing(round, 100+ring))
				if checkStore(t, "a ring more", s, want); which != ring {
					t.Fatalf("Most %d: ring %d, not %d", most, which, ring)
				}
			}
			for _, value := range []int64{0, 1, 9, mostValue} {
				got, which := impl.AddRing(s, value)
				checkNothing(t, "as many as Most", got, which, want)
			}
		}
	}
}

// Each way to link four rings, each of them Closed or not besides, against a
// walk by the document's words.
func TestLinkEveryRingToEveryRing(t *testing.T) {
	const n = 4
	everyLinks(n, func(nexts []int64) {
		if !everyWalkEnds(nexts) {
			return
		}
		for open := range 1 << n {
			s := linkedStore(2, n, nexts...)
			for ring := range s.Rings {
				s.Rings[ring].Closed = nexts[ring] != -1 || open>>ring&1 == 0
			}
			for ring := range int64(n) {
				for next := int64(-2); next <= n+1; next++ {
					checkLink(t, s, nexts, ring, next)
				}
			}
		}
	})
}

func checkLink(t *testing.T, s impl.Store, nexts []int64, ring, next int64) {
	t.Helper()
	was := nexts[ring]
	nexts[ring] = next
	may := was == -1 && next >= 0 && s.Rings[ring].Closed && everyWalkEnds(nexts)
	nexts[ring] = was
	want := s
	if may {
		want = copied(s)
		want.Rings[ring].Next = next
	}
	if got, done := impl.Link(s, ring, next); done != may || !sameStore(got, want) {
		t.Fatalf("nexts %v: Link(%d, %d) = %+v, %v", nexts, ring, next, got, done)
	}
}

func TestLink(t *testing.T) {
	for _, next := range []int64{1, 3} {
		got, done := impl.Link(usedStore(), 2, next)
		checkDone(t, "Link", got, done, func(s *impl.Store) { s.Rings[2].Next = next })
	}
	cases := []struct {
		name       string
		ring, next int64
	}{
		{"linked to another one", 0, 3},
		{"linked to that one already", 0, 2},
		{"not Closed", 1, 3},
		{"not Closed, in use", 3, 0},
		{"to itself", 2, 2},
		{"back to where it is led from", 2, 0},
		{"to none", 2, -1},
	}
	for _, c := range cases {
		got, done := flagged(impl.Link(usedStore(), c.ring, c.next))
		checkNothing(t, c.name, got, done, usedStore())
	}
	for _, next := range noRings(4) {
		for ring := range int64(4) {
			got, done := flagged(impl.Link(usedStore(), ring, next))
			checkNothing(t, "no such next", got, done, usedStore())
		}
	}
}

func TestLinkLeadsBackFromAfar(t *testing.T) {
	nexts := looseRings(mostRings)
	for i := range nexts[1:] {
		nexts[i] = int64(i) + 1
	}
	s := linkedStore(2, mostRings, nexts...)
	s.Rings[mostRings-1].Closed = true
	for next := range int64(mostRings) {
		got, done := flagged(impl.Link(s, mostRings-1, next))
		checkNothing(t, "back from afar", got, done, s)
	}
}

// 15 is the greatest Next that there may be.
func TestLinkToTheLastRingThereMayBe(t *testing.T) {
	s := linkedStore(2, mostRings, looseRings(mostRings)...)
	s.Rings[3].Closed = true
	got, done := impl.Link(s, 3, mostRings-1)
	want := copied(s)
	want.Rings[3].Next = mostRings - 1
	if checkStore(t, "the last ring", got, want); !done {
		t.Error("not linked")
	}
}

func TestSwing(t *testing.T) {
	for to := range int64(4) {
		got, done := impl.Swing(usedStore(), false, 0, to)
		checkDone(t, "First", got, done, func(s *impl.Store) { s.First = to })
		got, done = impl.Swing(usedStore(), true, 2, to)
		checkDone(t, "Last", got, done, func(s *impl.Store) { s.Last = to })
	}
}

func TestSwingNotSeen(t *testing.T) {
	for _, seen := range []int64{math.MinInt64, -1, 0, 1, 2, 3, 4, math.MaxInt64} {
		for _, to := range []int64{0, 1, 2, 3} {
			if seen != 0 { // First is
				got, done := flagged(impl.Swing(usedStore(), false, seen, to))
				checkNothing(t, "First", got, done, usedStore())
			}
			if seen != 2 { // Last is
				got, done := flagged(impl.Swing(usedStore(), true, seen, to))
				checkNothing(t, "Last", got, done, usedStore())
			}
		}
	}
}

func TestSwingToNoRing(t *testing.T) {
	for _, to := range noRings(4) {
		got, done := flagged(impl.Swing(usedStore(), false, 0, to))
		checkNothing(t, "First", got, done, usedStore())
		got, done = flagged(impl.Swing(usedStore(), true, 2, to))
		checkNothing(t, "Last", got, done, usedStore())
	}
}

// A lottery draws the same numbers each time.
type lottery uint64

func (l *lottery) draw(from, below int64) int64 {
	*l = *l*6364136223846793005 + 1442695040888963407
	return from + int64(uint64(*l)>>33)%(below-from)
}

// place is near to what may stand there, and often what does.
func (l *lottery) place(s impl.Store, ring, at int64) impl.Place {
	if ring >= 0 && ring < int64(len(s.Rings)) && at >= 0 && at < s.Round && l.draw(0, 4) > 0 {
		return s.Rings[ring].Places[at]
	}
	return impl.Place{Safe: l.draw(0, 2) == 0, No: l.draw(-1, 9), Full: l.draw(0, 2) == 0, Value: l.draw(-1, 3)}
}

// anyThing does one of the eight, with arguments that are often right.
func (l *lottery) anyThing(s impl.Store) (impl.Store, int64) {
	n := int64(len(s.Rings))
	ring := l.draw(-1, n+1)
	switch l.draw(0, 8) {
	case 0:
		return impl.TakeTicket(s, ring)
	case 1:
		return impl.PutTicket(s, ring)
	case 2:
		at := l.draw(-1, s.Round+1)
		to := impl.Place{Safe: l.draw(0, 2) == 0, No: at + s.Round*l.draw(-1, 3), Full: l.draw(0, 2) == 0, Value: l.draw(-1, 3)}
		return flagged(impl.SwapPlace(s, ring, at, l.place(s, ring, at), to))
	case 3:
		return flagged(impl.Close(s, ring))
	case 4:
		return flagged(impl.RaiseTail(s, ring, l.draw(-1, 4), l.draw(-1, 4)))
	case 5:
		return impl.AddRing(s, l.draw(-1, 4))
	case 6:
		return flagged(impl.Link(s, ring, l.draw(-1, n+1)))
	}
	return flagged(impl.Swing(s, l.draw(0, 2) == 0, l.draw(-1, n+1), l.draw(-1, n+1)))
}

func TestAStoreStaysRight(t *testing.T) {
	l := lottery(4)
	for range 300 {
		s, _ := impl.NewStore(l.draw(2, 9), l.draw(1, mostRings+1))
		for range 100 {
			was := copied(s)
			then, answer := l.anyThing(s)
			if !impl.StoreOk(then) || answer == -1 && !sameStore(then, was) || !sameStore(s, was) {
				t.Fatalf("%+v, then %+v, answer %d", was, then, answer)
			}
			s = then
		}
	}
}
