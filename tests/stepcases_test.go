package tests

import (
	"math"
	"testing"

	"loop.example/g00610/impl"
)

// busyHand fits usedStore, whatever it is at, and has no field that is zero, so
// that whatever is not kept, or not made zero, shows.
func busyHand(at int64) impl.Hand {
	return impl.Hand{At: at, Value: 7, Ring: 1, Ticket: 9, Seen: full(9, 3), Tries: 1, Spare: 3, Again: true, Reply: lastReply}
}

func restedWith(reply, spare int64) impl.Hand {
	return impl.Hand{Spare: spare, Reply: reply}
}

// A stepCase is a step from usedStore and busyHand(at), each but for its
// change, to the same, each but for its other change besides. The Store is as
// it is where there is no such change.
type stepCase struct {
	name      string
	at        int64
	store     func(s *impl.Store)
	hand      func(h *impl.Hand)
	thenStore func(s *impl.Store)
	thenHand  func(h *impl.Hand)
}

func (c stepCase) given() (impl.Store, impl.Hand) {
	s, h := usedStore(), busyHand(c.at)
	if c.store != nil {
		c.store(&s)
	}
	if c.hand != nil {
		c.hand(&h)
	}
	return s, h
}

func (c stepCase) wanted() (impl.Store, impl.Hand) {
	s, h := c.given()
	if c.thenStore != nil {
		c.thenStore(&s)
	}
	c.thenHand(&h)
	return s, h
}

func atOnly(at int64) func(h *impl.Hand) {
	return func(h *impl.Hand) { h.At = at }
}

func onRing(ring int64) func(h *impl.Hand) {
	return func(h *impl.Hand) { h.Ring = ring }
}

func ringAndTicket(ring, ticket int64) func(h *impl.Hand) {
	return func(h *impl.Hand) { h.Ring, h.Ticket = ring, ticket }
}

func ringAndSpare(ring, spare int64) func(h *impl.Hand) {
	return func(h *impl.Hand) { h.Ring, h.Spare = ring, spare }
}

func ticketAndTries(ticket, tries int64) func(h *impl.Hand) {
	return func(h *impl.Hand) { h.Ticket, h.Tries = ticket, tries }
}

func triesAt(tries, at int64) func(h *impl.Hand) {
	return func(h *impl.Hand) { h.Tries, h.At = tries, at }
}

func rest(reply, spare int64) func(h *impl.Hand) {
	return func(h *impl.Hand) { *h = restedWith(reply, spare) }
}

func lastIs(ring int64) func(s *impl.Store) {
	return func(s *impl.Store) { s.Last = ring }
}

func tailIs(ring, tail int64) func(s *impl.Store) {
	return func(s *impl.Store) { s.Rings[ring].Tail = tail }
}

func placeIs(ring, at int64, p impl.Place) func(s *impl.Store) {
	return func(s *impl.Store) { s.Rings[ring].Places[at] = p }
}

func ringIs(ring int64, r impl.Ring) func(s *impl.Store) {
	return func(s *impl.Store) { s.Rings[ring] = r }
}

func headIs(ring, head int64) func(s *impl.Store) {
	return func(s *impl.Store) { s.Rings[ring].Head = head }
}

// leadsToRing0 makes ring 1 one that is ahead of ring 0.
func leadsToRing0(s *impl.Store) { s.Rings[1].Closed, s.Rings[1].Next = true, 0 }

func asItIs(*impl.Hand) {}

// refusedAtOthers are those of a Store and a Hand that are right where nothing
// is done since it is not at what is done, or at no ring of the Store.
func refusedAtOthers(is func(at int64) bool) []stepCase {
	var all []stepCase
	for at := int64(0); at <= lastAt; at++ {
		if !is(at) {
			all = append(all,
				stepCase{"it does another thing", at, nil, nil, nil, asItIs},
				stepCase{"it does another thing, no such ring", at, nil, onRing(15), nil, asItIs})
			continue
		}
		for _, ring := range []int64{4, 5, 15} {
			all = append(all,
				stepCase{"no such ring", at, nil, onRing(ring), nil, asItIs},
				stepCase{"no such ring, no Spare", at, nil, ringAndSpare(ring, -1), nil, asItIs},
				stepCase{"neither ring nor Spare", at, nil, ringAndSpare(ring, ring), nil, asItIs})
		}
	}
	return all
}

// A tally is how often somebody was at each step, and rested with each Reply.
type tally struct {
	steps   [lastAt + 1]int
	replies [lastReply + 1]int
}

func (all *tally) add(more tally) {
	for at, n := range more.steps {
		all.steps[at] += n
	}
	for reply, n := range more.replies {
		all.replies[reply] += n
	}
}

func (all tally) checkSteps(t *testing.T, first, last int64) {
	t.Helper()
	for at := first; at <= last; at++ {
		if all.steps[at] == 0 {
			t.Errorf("nobody was ever at %d", at)
		}
	}
}

func (all tally) checkReplies(t *testing.T) {
	t.Helper()
	for reply := impl.ReDone; reply <= lastReply; reply++ {
		if all.replies[reply] == 0 {
			t.Errorf("nobody ever rested with %d", reply)
		}
	}
}

// A stepper is one of the functions by which a Hand does its next thing.
type stepper func(s impl.Store, h impl.Hand) (impl.Store, impl.Hand, bool)

func (step stepper) check(t *testing.T, name string, s impl.Store, h impl.Hand, wantStore impl.Store, wantHand impl.Hand, want bool) {
	t.Helper()
	got, hand, is := step(s, h)
	checkStore(t, name, got, wantStore)
	checkHand(t, name, hand, is, wantHand, want)
}

func (step stepper) checkZero(t *testing.T, name string, s impl.Store, h impl.Hand) {
	t.Helper()
	step.check(t, name, s, h, impl.Store{}, impl.Hand{}, false)
}

func (step stepper) checkCases(t *testing.T, cases []stepCase, want bool) {
	t.Helper()
	for _, c := range cases {
		s, h := c.given()
		if !impl.StoreOk(s) || !impl.HandOk(h) {
			t.Fatalf("At %d, %s: %+v or %+v is not right", c.at, c.name, s, h)
		}
		then, hand := c.wanted()
		step.check(t, c.name, s, h, then, hand, want)
		if t.Failed() {
			t.Fatalf("At %d, %s", c.at, c.name)
		}
	}
}

func (step stepper) checkNoStores(t *testing.T) {
	t.Helper()
	for name, s := range wrongStores() {
		for at := range int64(lastAt + 1) {
			for _, ring := range []int64{0, 1, 2, 3, 15} {
				h := busyHand(at)
				h.Ring, h.Spare = ring, -1
				step.checkZero(t, name, s, h)
			}
		}
	}
}

func (step stepper) checkNoHands(t *testing.T) {
	t.Helper()
	for _, h := range noHands() {
		step.checkZero(t, "no hand", usedStore(), h)
		for name, s := range wrongStores() {
			step.checkZero(t, "no hand, "+name, s, h)
		}
	}
}

func (step stepper) checkEndsOfNumbers(t *testing.T) {
	t.Helper()
	for _, number := range []int64{math.MinInt64, math.MaxInt64} {
		h := impl.Hand{At: number, Value: number, Ring: number, Ticket: number, Tries: number, Spare: number, Reply: number}
		step.checkZero(t, "all fields", usedStore(), h)
		for at := range int64(lastAt + 1) {
			h.At = at
			step.checkZero(t, "all fields but At", usedStore(), h)
		}
	}
}

func (step stepper) checkApartFromTheArgument(t *testing.T, cases []stepCase) {
	t.Helper()
	for _, c := range cases {
		s, h := c.given()
		s = roomy(s)
		kept := copied(withRoom(s))
		want, _ := c.wanted()
		got, _, _ := step(s, h)
		checkStore(t, c.name+", the argument behind the step", withRoom(s), kept)
		second, _, _ := step(s, h)
		spoilStore(got)
		checkStore(t, c.name+", the argument behind a change of the answer", withRoom(s), kept)
		checkStore(t, c.name+", another answer behind a change of the first", second, want)
		spoilStore(s)
		checkStore(t, c.name+", the answer behind a change of the argument", second, want)
	}
}

// Two rings of the argument may have one list of places; those of the answer
// may not.
func (step stepper) checkApartWithinAnAnswer(t *testing.T, cases []stepCase) {
	t.Helper()
	for _, c := range cases {
		got, _, _ := step(c.given())
		checkListsApart(t, c.name, got)
	}
	for at := range int64(lastAt + 1) {
		for ring := range int64(2) {
			s := linkedStore(2, 3, -1, -1)
			s.Rings[1].Places = s.Rings[0].Places
			h := impl.Hand{At: at, Value: 7, Ring: ring, Seen: impl.Place{Safe: true}, Spare: -1}
			got, _, _ := step(s, h)
			checkStore(t, "the argument", s, linkedStore(2, 3, -1, -1))
			checkListsApart(t, "rings that share their places", got)
		}
	}
}

func (step stepper) checkLeavesWhatIsNotRight(t *testing.T) {
	t.Helper()
	for name, s := range wrongStores() {
		for at := range int64(lastAt + 1) {
			s = roomy(copied(s))
			kept := copied(withRoom(s))
			step(s, busyHand(at))
			checkStore(t, "the argument, "+name, withRoom(s), kept)
		}
	}
}

// alone steps till it rests, and tells where it was.
func (step stepper) alone(t *testing.T, s impl.Store, h impl.Hand) (impl.Store, impl.Hand, []int64) {
	t.Helper()
	var ats []int64
	for range 100 {
		if h.At == impl.AtRest {
			return s, h, ats
		}
		ats = append(ats, h.At)
		var is bool
		if s, h, is = step(s, h); !is {
			t.Fatalf("nothing is done: %+v, %+v", s, h)
		}
	}
	t.Fatalf("no end: %+v, %+v", s, h)
	return s, h, ats
}

// changesOf counts the small things by which two stores differ: a ring that
// was seeded anew is one.
func changesOf(a, b impl.Store, spare int64) int64 {
	changes := int64(len(b.Rings) - len(a.Rings))
	count := func(differs bool) {
		if differs {
			changes++
		}
	}
	count(a.First != b.First)
	count(a.Last != b.Last)
	for ring, was := range a.Rings {
		now := b.Rings[ring]
		if int64(ring) == spare && sameRing(now, seededRing(a.Round, now.Places[0].Value)) {
			count(!sameRing(was, now))
			continue
		}
		count(was.Head != now.Head)
		count(was.Tail != now.Tail)
		count(was.Closed != now.Closed)
		count(was.Next != now.Next)
		for at := range was.Places {
			count(was.Places[at] != now.Places[at])
		}
	}
	return changes
}
