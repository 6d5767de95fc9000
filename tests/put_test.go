package tests

import (
	"slices"
	"testing"

	"loop.example/g00610/impl"
)

const mostTries = 4

var puttingOn stepper = impl.PutStep

func lastCases() []stepCase {
	toNext := func(ring int64) func(h *impl.Hand) {
		return func(h *impl.Hand) { h.Ring, h.At = ring, impl.AtNext }
	}
	return []stepCase{
		{"from another ring", impl.AtLast, nil, onRing(1), nil, toNext(2)},
		{"from Last itself", impl.AtLast, nil, onRing(2), nil, toNext(2)},
		{"to ring 0", impl.AtLast, lastIs(0), onRing(3), nil, toNext(0)},
		{"to the last ring of the list", impl.AtLast, lastIs(3), onRing(0), nil, toNext(3)},
	}
}

func nextCases() []stepCase {
	toHelp := func(next int64) func(h *impl.Hand) {
		return func(h *impl.Hand) { h.Ticket, h.At = next, impl.AtHelp }
	}
	return []stepCase{
		{"no Next, open", impl.AtNext, nil, onRing(1), nil, atOnly(impl.AtPutTicket)},
		{"no Next, Closed", impl.AtNext, nil, onRing(2), nil, atOnly(impl.AtPutTicket)},
		{"no Next, no Spare", impl.AtNext, nil, ringAndSpare(1, -1), nil, atOnly(impl.AtPutTicket)},
		{"a Next", impl.AtNext, nil, onRing(0), nil, toHelp(2)},
		{"a Next that is ring 0", impl.AtNext, leadsToRing0, onRing(1), nil, toHelp(0)},
		{"a Next, no Spare", impl.AtNext, nil, ringAndSpare(0, -1), nil, toHelp(2)},
	}
}

func helpCases() []stepCase {
	return []stepCase{
		{"Last is r", impl.AtHelp, nil, ringAndTicket(2, 3), lastIs(3), atOnly(impl.AtLast)},
		{"Last is r, to ring 0", impl.AtHelp, nil, ringAndTicket(2, 0), lastIs(0), atOnly(impl.AtLast)},
		{"Last is r, to r", impl.AtHelp, nil, ringAndTicket(2, 2), nil, atOnly(impl.AtLast)},
		{"Last is not r", impl.AtHelp, nil, ringAndTicket(1, 3), nil, atOnly(impl.AtLast)},
		{"First is r, Last is not", impl.AtHelp, nil, ringAndTicket(0, 3), nil, atOnly(impl.AtLast)},
		{"First and Last are r", impl.AtHelp, lastIs(0), ringAndTicket(0, 2), lastIs(2), atOnly(impl.AtLast)},
		{"no such ring", impl.AtHelp, nil, ringAndTicket(2, 4), nil, atOnly(impl.AtLast)},
		{"no such ring, by far", impl.AtHelp, nil, ringAndTicket(2, mostNo), nil, atOnly(impl.AtLast)},
		{"no such ring, Last is not r", impl.AtHelp, nil, ringAndTicket(1, 4), nil, atOnly(impl.AtLast)},
	}
}

func putTicketCases() []stepCase {
	drawn := func(ticket, at int64) func(h *impl.Hand) {
		return func(h *impl.Hand) { h.Ticket, h.At = ticket, at }
	}
	return []stepCase{
		{"open", impl.AtPutTicket, nil, onRing(1), tailIs(1, 3), drawn(2, impl.AtLook)},
		{"Closed", impl.AtPutTicket, nil, onRing(2), tailIs(2, 5), drawn(4, impl.AtMake)},
		{"Closed and linked", impl.AtPutTicket, nil, onRing(0), tailIs(0, 10), drawn(9, impl.AtMake)},
		{"the first ticket", impl.AtPutTicket, tailIs(1, 0), onRing(1), tailIs(1, 1), drawn(0, impl.AtLook)},
		{"the last ticket, open", impl.AtPutTicket, tailIs(1, mostNo-1), onRing(1), tailIs(1, mostNo), drawn(mostNo-1, impl.AtLook)},
		{"the last ticket, Closed", impl.AtPutTicket, tailIs(2, mostNo-1), onRing(2), tailIs(2, mostNo), drawn(mostNo-1, impl.AtMake)},
	}
}

func lookCases() []stepCase {
	saw := func(p impl.Place, at int64) func(h *impl.Hand) {
		return func(h *impl.Hand) { h.Seen, h.At = p, at }
	}
	safe := func(no int64) impl.Place { return impl.Place{Safe: true, No: no} }
	notSafe := func(no int64) impl.Place { return impl.Place{No: no} }
	unsafeFull := impl.Place{No: 5, Full: true, Value: 31}
	return []stepCase{
		{"Safe, its No at t", impl.AtLook, nil, ringAndTicket(1, 2), nil, saw(safe(2), impl.AtPut)},
		{"Safe, its No below t", impl.AtLook, nil, ringAndTicket(1, 3), nil, saw(safe(0), impl.AtPut)},
		{"Safe, its No above t", impl.AtLook, placeIs(1, 2, safe(5)), ringAndTicket(1, 2), nil, saw(safe(5), impl.AtCheck)},
		{"Safe, Full, its No at t", impl.AtLook, nil, ringAndTicket(1, 1), nil, saw(full(1, 21), impl.AtCheck)},
		{"Safe, Full, its No below t", impl.AtLook, nil, ringAndTicket(1, 4), nil, saw(full(1, 21), impl.AtCheck)},
		{"not Safe, its No at t", impl.AtLook, nil, ringAndTicket(0, 4), nil, saw(notSafe(4), impl.AtHead)},
		{"not Safe, its No below t", impl.AtLook, nil, ringAndTicket(0, 7), nil, saw(notSafe(4), impl.AtHead)},
		{"not Safe, its No above t", impl.AtLook, nil, ringAndTicket(0, 1), nil, saw(notSafe(4), impl.AtCheck)},
		{"not Safe, Full", impl.AtLook, nil, ringAndTicket(3, 8), nil, saw(unsafeFull, impl.AtCheck)},
		{"t is 0", impl.AtLook, nil, ringAndTicket(1, 0), nil, saw(safe(0), impl.AtPut)},
		{"t is the greatest", impl.AtLook, nil, ringAndTicket(0, mostNo), nil, saw(notSafe(4), impl.AtHead)},
		{"the same is seen once more", impl.AtLook, nil, func(h *impl.Hand) { h.Ticket, h.Seen = 3, safe(0) }, nil, atOnly(impl.AtPut)},
	}
}

func headCases() []stepCase {
	return []stepCase{
		{"Head above t", impl.AtHead, nil, ringAndTicket(0, 6), nil, atOnly(impl.AtCheck)},
		{"Head at t", impl.AtHead, nil, ringAndTicket(0, 7), nil, atOnly(impl.AtPut)},
		{"Head below t", impl.AtHead, nil, ringAndTicket(0, 8), nil, atOnly(impl.AtPut)},
		{"t is 0", impl.AtHead, nil, ringAndTicket(0, 0), nil, atOnly(impl.AtCheck)},
		{"t is the greatest", impl.AtHead, nil, ringAndTicket(0, mostNo), nil, atOnly(impl.AtPut)},
		{"Head of that ring, not of another", impl.AtHead, nil, ringAndTicket(3, 3), nil, atOnly(impl.AtPut)},
		{"Head and t 0", impl.AtHead, headIs(1, 0), ringAndTicket(1, 0), nil, atOnly(impl.AtPut)},
	}
}

func putCases() []stepCase {
	has := func(ring, ticket int64, seen impl.Place) func(h *impl.Hand) {
		return func(h *impl.Hand) { h.Ring, h.Ticket, h.Seen = ring, ticket, seen }
	}
	hasValue := func(value int64) func(h *impl.Hand) {
		return func(h *impl.Hand) { h.Ticket, h.Seen, h.Value = 3, impl.Place{Safe: true}, value }
	}
	safe0 := impl.Place{Safe: true}
	done := rest(impl.ReDone, 3)
	return []stepCase{
		{"seen, its No below t", impl.AtPut, nil, has(1, 3, safe0), placeIs(1, 0, full(3, 7)), done},
		{"seen, its No at t", impl.AtPut, nil, has(1, 0, safe0), placeIs(1, 0, full(0, 7)), done},
		{"seen, not Safe", impl.AtPut, nil, has(0, 7, impl.Place{No: 4}), placeIs(0, 1, full(7, 7)), done},
		{"seen, t is the greatest", impl.AtPut, nil, has(0, mostNo, impl.Place{No: 4}), placeIs(0, 1, full(mostNo, 7)), done},
		{"seen, Closed", impl.AtPut, nil, has(2, 5, impl.Place{Safe: true, No: 2}), placeIs(2, 2, full(5, 7)), done},
		{"seen, the least Value", impl.AtPut, nil, hasValue(1), placeIs(1, 0, full(3, 1)), done},
		{"seen, the greatest Value", impl.AtPut, nil, hasValue(mostValue), placeIs(1, 0, full(3, mostValue)), done},
		{"seen, no Spare", impl.AtPut, nil, func(h *impl.Hand) { h.Ticket, h.Seen, h.Spare = 3, safe0, -1 }, placeIs(1, 0, full(3, 7)), rest(impl.ReDone, -1)},
		{"seen, no ring as Spare", impl.AtPut, nil, func(h *impl.Hand) { h.Ticket, h.Seen, h.Spare = 3, safe0, 15 }, placeIs(1, 0, full(3, 7)), rest(impl.ReDone, 15)},
		{"another No", impl.AtPut, nil, has(1, 3, impl.Place{Safe: true, No: 3}), nil, atOnly(impl.AtCheck)},
		{"another Safe", impl.AtPut, nil, has(1, 3, impl.Place{}), nil, atOnly(impl.AtCheck)},
		{"Full since then", impl.AtPut, nil, has(1, 1, impl.Place{Safe: true, No: 1}), nil, atOnly(impl.AtCheck)},
		{"another Value", impl.AtPut, nil, has(1, 1, full(1, 22)), nil, atOnly(impl.AtCheck)},
		{"seen at another place", impl.AtPut, nil, has(1, 5, safe0), nil, atOnly(impl.AtCheck)},
		{"seen at another ring", impl.AtPut, nil, has(0, 6, safe0), nil, atOnly(impl.AtCheck)},
	}
}

// Head of ring 1 is 1 and Round is 3, so a t of 4 is the first too far ahead.
func checkCases() []stepCase {
	return []stepCase{
		{"one below Round", impl.AtCheck, nil, ticketAndTries(3, 0), nil, triesAt(1, impl.AtPutTicket)},
		{"at Round", impl.AtCheck, nil, ticketAndTries(4, 0), nil, triesAt(1, impl.AtClose)},
		{"above Round", impl.AtCheck, nil, ticketAndTries(5, 0), nil, triesAt(1, impl.AtClose)},
		{"t at Head", impl.AtCheck, nil, ticketAndTries(1, 0), nil, triesAt(1, impl.AtPutTicket)},
		{"t below Head", impl.AtCheck, nil, ticketAndTries(0, 0), nil, triesAt(1, impl.AtPutTicket)},
		{"t is the greatest", impl.AtCheck, nil, ticketAndTries(mostNo, 0), nil, triesAt(1, impl.AtClose)},
		{"Tries one below the most", impl.AtCheck, nil, ticketAndTries(3, mostTries-2), nil, triesAt(mostTries-1, impl.AtPutTicket)},
		{"Tries the most", impl.AtCheck, nil, ticketAndTries(3, mostTries-1), nil, triesAt(mostTries, impl.AtClose)},
		{"Tries the most, t below Head", impl.AtCheck, nil, ticketAndTries(0, mostTries-1), nil, triesAt(mostTries, impl.AtClose)},
		{"Tries more", impl.AtCheck, nil, ticketAndTries(3, mostTries), nil, triesAt(mostTries+1, impl.AtClose)},
		{"Tries and t both", impl.AtCheck, nil, ticketAndTries(4, mostTries-1), nil, triesAt(mostTries, impl.AtClose)},
		{"Tries up to MaxNo", impl.AtCheck, nil, ticketAndTries(3, mostNo-1), nil, triesAt(mostNo, impl.AtClose)},
	}
}

func closeCases() []stepCase {
	closed := func(s *impl.Store) { s.Rings[1].Closed = true }
	return []stepCase{
		{"open", impl.AtClose, nil, onRing(1), closed, atOnly(impl.AtMake)},
		{"Closed", impl.AtClose, nil, onRing(2), nil, atOnly(impl.AtMake)},
		{"Closed and linked", impl.AtClose, nil, onRing(0), nil, atOnly(impl.AtMake)},
	}
}

func makeCases() []stepCase {
	seeded := seededRing(3, 7)
	added := func(s *impl.Store) { s.Rings = append(s.Rings, seeded) }
	noMore := func(s *impl.Store) { s.Most = 4 }
	spareAt := func(spare, at int64) func(h *impl.Hand) {
		return func(h *impl.Hand) { h.Spare, h.At = spare, at }
	}
	return []stepCase{
		{"a Spare", impl.AtMake, nil, nil, ringIs(3, seeded), atOnly(impl.AtLink)},
		{"a Spare, as many rings as Most", impl.AtMake, noMore, nil, ringIs(3, seeded), atOnly(impl.AtLink)},
		{"a Spare that is ring 0, linked", impl.AtMake, nil, ringAndSpare(2, 0), ringIs(0, seeded), atOnly(impl.AtLink)},
		{"a Spare that is Last", impl.AtMake, nil, ringAndSpare(1, 2), ringIs(2, seeded), atOnly(impl.AtLink)},
		{"a Spare that is r", impl.AtMake, nil, ringAndSpare(1, 1), ringIs(1, seeded), atOnly(impl.AtLink)},
		{"no Spare", impl.AtMake, nil, ringAndSpare(1, -1), added, spareAt(4, impl.AtLink)},
		{"no Spare, as many rings as Most", impl.AtMake, noMore, ringAndSpare(1, -1), nil, rest(impl.ReFull, -1)},
	}
}

func linkCases() []stepCase {
	linked := func(next int64) func(s *impl.Store) {
		return func(s *impl.Store) { s.Rings[2].Next = next }
	}
	notDone := triesAt(0, impl.AtLast)
	return []stepCase{
		{"no Next", impl.AtLink, nil, ringAndSpare(2, 3), linked(3), atOnly(impl.AtSwing)},
		{"no Next, to an open one", impl.AtLink, nil, ringAndSpare(2, 1), linked(1), atOnly(impl.AtSwing)},
		{"a Next", impl.AtLink, nil, ringAndSpare(0, 3), nil, notDone},
		{"a Next that is Spare", impl.AtLink, nil, ringAndSpare(0, 2), nil, notDone},
		{"not Closed", impl.AtLink, nil, ringAndSpare(1, 3), nil, notDone},
		{"no Spare", impl.AtLink, nil, ringAndSpare(2, -1), nil, notDone},
		{"no such ring", impl.AtLink, nil, ringAndSpare(2, 4), nil, notDone},
		{"no such ring, by far", impl.AtLink, nil, ringAndSpare(2, 15), nil, notDone},
		{"to itself", impl.AtLink, nil, ringAndSpare(2, 2), nil, notDone},
		{"round and round", impl.AtLink, nil, ringAndSpare(2, 0), nil, notDone},
	}
}

func swingCases() []stepCase {
	done := rest(impl.ReDone, -1)
	return []stepCase{
		{"Last is r", impl.AtSwing, nil, ringAndSpare(2, 3), lastIs(3), done},
		{"Last is r, to ring 0", impl.AtSwing, nil, ringAndSpare(2, 0), lastIs(0), done},
		{"Last is not r", impl.AtSwing, nil, ringAndSpare(1, 3), nil, done},
		{"First is r, Last is not", impl.AtSwing, nil, ringAndSpare(0, 3), nil, done},
		{"First and Last are r", impl.AtSwing, lastIs(0), ringAndSpare(0, 3), lastIs(3), done},
		{"no Spare", impl.AtSwing, nil, ringAndSpare(2, -1), nil, done},
		{"no such ring", impl.AtSwing, nil, ringAndSpare(2, 4), nil, done},
	}
}

func everyPutCase() []stepCase {
	return slices.Concat(
		lastCases(), nextCases(), helpCases(), putTicketCases(), lookCases(), headCases(),
		putCases(), checkCases(), closeCases(), makeCases(), linkCases(), swingCases(),
	)
}

// refusedPutCases are those where nothing is done, of a Store and a Hand that
// are right.
func refusedPutCases() []stepCase {
	return append(refusedAtOthers(isForPutting),
		stepCase{"no ticket left, open", impl.AtPutTicket, tailIs(1, mostNo), onRing(1), nil, asItIs},
		stepCase{"no ticket left, Closed", impl.AtPutTicket, tailIs(2, mostNo), onRing(2), nil, asItIs},
		stepCase{"no more Tries", impl.AtCheck, nil, ticketAndTries(3, mostNo), nil, asItIs},
		stepCase{"no more Tries, too far ahead", impl.AtCheck, nil, ticketAndTries(4, mostNo), nil, asItIs},
		stepCase{"no such Spare", impl.AtMake, nil, ringAndSpare(1, 4), nil, asItIs},
		stepCase{"no such Spare, by far", impl.AtMake, nil, ringAndSpare(1, 15), nil, asItIs})
}

func TestMaxTries(t *testing.T) {
	if impl.MaxTries != mostTries {
		t.Errorf("MaxTries %d", impl.MaxTries)
	}
}

func TestPutStep(t *testing.T) { puttingOn.checkCases(t, everyPutCase(), true) }

func TestPutStepRefused(t *testing.T) { puttingOn.checkCases(t, refusedPutCases(), false) }

// What a step does not name stays, whatever it is; but for resting, which is
// told by the cases above.
func TestPutStepKeepsWhatItDoesNotName(t *testing.T) {
	for _, c := range everyPutCase() {
		for _, again := range []bool{false, true} {
			for reply := range int64(lastReply + 1) {
				s, h := c.given()
				then, hand := c.wanted()
				h.Again, h.Reply = again, reply
				if hand.At != impl.AtRest {
					hand.Again, hand.Reply = again, reply
				}
				puttingOn.check(t, c.name, s, h, then, hand, true)
			}
		}
	}
}

func TestPutStepOfEveryRound(t *testing.T) {
	for round := int64(2); round <= 8; round++ {
		for ticket := range 3 * round {
			s := linkedStore(round, 2, -1)
			at := ticket % round
			seen := impl.Place{Safe: true, No: at}
			h := impl.Hand{At: impl.AtLook, Value: 7, Ticket: ticket, Spare: -1}
			want := h
			want.At, want.Seen = impl.AtPut, seen
			puttingOn.check(t, "AtLook", s, h, s, want, true)
			then := copied(s)
			then.Rings[0].Places[at] = full(ticket, 7)
			puttingOn.check(t, "AtPut", s, want, then, restedWith(impl.ReDone, -1), true)
			h.At = impl.AtCheck
			want = h
			want.Tries, want.At = 1, impl.AtPutTicket
			if ticket >= round {
				want.At = impl.AtClose
			}
			puttingOn.check(t, "AtCheck", s, h, s, want, true)
			h.At = impl.AtMake
			want = h
			want.At, want.Spare = impl.AtLink, 1
			then = copied(s)
			then.Rings = append(then.Rings, seededRing(round, 7))
			puttingOn.check(t, "AtMake", s, h, then, want, true)
		}
	}
}

func TestPutStepOfWhatIsNoStore(t *testing.T) { puttingOn.checkNoStores(t) }

func TestPutStepOfWhatIsNoHand(t *testing.T) { puttingOn.checkNoHands(t) }

// What would be put is not right where the Value is none, or the Ticket: then
// the Hand is not right either.
func TestPutStepOfNoParcel(t *testing.T) {
	_, right := putCases()[0].given()
	for _, value := range append(outside(1, mostValue), 0) {
		h := right
		h.Value = value
		puttingOn.checkZero(t, "no Value", usedStore(), h)
	}
	for _, ticket := range outside(0, mostNo) {
		h := right
		h.Ticket = ticket
		puttingOn.checkZero(t, "no Ticket", usedStore(), h)
	}
}

func TestPutStepAtTheEndsOfNumbers(t *testing.T) { puttingOn.checkEndsOfNumbers(t) }

func TestPutStepSharesNoMemoryWithTheArgument(t *testing.T) {
	puttingOn.checkApartFromTheArgument(t, append(everyPutCase(), refusedPutCases()...))
}

func TestPutStepSharesNoMemoryWithinAnAnswer(t *testing.T) {
	puttingOn.checkApartWithinAnAnswer(t, append(everyPutCase(), refusedPutCases()...))
}

func TestPutStepLeavesWhatIsNotRight(t *testing.T) { puttingOn.checkLeavesWhatIsNotRight(t) }

// A crowd puts, each one a Value of its own, in turns that a lottery draws;
// and some take at ring 0, by small things, so that places are left, spoilt
// and skipped. Who takes may be slow: its ticket waits.
type crowd struct {
	lottery
	tally
	store   impl.Store
	hands   []impl.Hand
	values  []int64
	tickets []int64
	taken   []int64
}

func newCrowd(seed lottery, n int64) *crowd {
	c := &crowd{lottery: seed}
	c.store, _ = impl.NewStore(c.draw(2, 5), c.draw(1, 7))
	for who := range n {
		h, _ := impl.ToPut(impl.Resting(), 100+who)
		c.hands = append(c.hands, h)
		c.values = append(c.values, 100+who)
	}
	return c
}

func (c *crowd) takeOne() {
	if len(c.tickets) == 0 || c.draw(0, 2) == 0 {
		s, ticket := impl.TakeTicket(c.store, 0)
		c.store, c.tickets = s, append(c.tickets, ticket)
		return
	}
	which := int(c.draw(0, int64(len(c.tickets))))
	c.takeBy(c.tickets[which])
	c.tickets = slices.Delete(c.tickets, which, which+1)
}

func (c *crowd) takeBy(ticket int64) {
	s := c.store
	at := impl.PlaceAt(s.Rings[0], ticket)
	seen := s.Rings[0].Places[at]
	switch {
	case seen.No > ticket:
	case seen.Full && seen.No < ticket:
		to := seen
		to.Safe = false
		s, _ = impl.SwapPlace(s, 0, at, seen, to)
	default:
		if seen.Full {
			c.taken = append(c.taken, seen.Value)
		}
		s, _ = impl.SwapPlace(s, 0, at, seen, impl.Left(seen, ticket, s.Round))
	}
	c.store = s
}

func (c *crowd) step(t *testing.T, who int64) {
	t.Helper()
	was, h := copied(c.store), c.hands[who]
	s, then, is := impl.PutStep(c.store, h)
	if !is || !impl.StoreOk(s) || !impl.HandOk(then) || !sameStore(c.store, was) {
		t.Fatalf("%+v, %+v: %+v, %+v, %v", was, h, s, then, is)
	}
	if changes := changesOf(was, s, h.Spare); changes > 1 {
		t.Fatalf("%+v, %+v: %d things at a time, %+v", was, h, changes, s)
	}
	c.steps[h.At]++
	c.store, c.hands[who] = s, then
}

// there counts where a Value is, or was: taken, or on a ring of the chain.
func (c *crowd) there(value int64) int {
	times := 0
	for _, one := range append(impl.ValuesIn(c.store), c.taken...) {
		if one == value {
			times++
		}
	}
	return times
}

func (c *crowd) check(t *testing.T) {
	t.Helper()
	for who, h := range c.hands {
		times := c.there(c.values[who])
		switch {
		case times > 1:
			t.Fatalf("%d is there %d times: %+v", c.values[who], times, c.store)
		case h.At == impl.AtSwing || h.Reply == impl.ReDone:
			if times != 1 {
				t.Fatalf("%d is not there: %+v", c.values[who], c.store)
			}
		case times != 0:
			t.Fatalf("%d is there, At %d, Reply %d: %+v", c.values[who], h.At, h.Reply, c.store)
		}
	}
}

func (c *crowd) busy() []int64 {
	var all []int64
	for who, h := range c.hands {
		if h.At != impl.AtRest {
			all = append(all, int64(who))
		}
	}
	return all
}

func TestWhoPutsPutsNoMoreThanOne(t *testing.T) {
	var all tally
	for seed := range lottery(400) {
		c := newCrowd(seed*977+5, 8)
		for busy, turns := c.busy(), 0; len(busy) > 0; busy, turns = c.busy(), turns+1 {
			if turns == 5000 {
				t.Fatalf("no end: %+v, %+v", c.store, c.hands)
			}
			if c.draw(0, 6) == 0 {
				c.takeOne()
			}
			c.step(t, busy[c.draw(0, int64(len(busy)))])
			c.check(t)
		}
		all.add(c.tally)
		for _, h := range c.hands {
			all.replies[h.Reply]++
		}
	}
	all.checkSteps(t, firstForPutting, lastForPutting)
	done, full := all.replies[impl.ReDone], all.replies[impl.ReFull]
	if done == 0 || full == 0 || done+full != 8*400 {
		t.Errorf("replies %v", all.replies)
	}
}

// One alone fills a ring, then sets up another one with its parcel on it, till
// there are Most.
func TestOnePutsAlone(t *testing.T) {
	onto := []int64{1, 2, 4, 5, 7}
	behind := []int64{1, 2, 4, 5, 8, 9, 10, 11, 12}
	noRoom := []int64{1, 2, 4, 5, 8, 9, 10}
	closed := []int64{1, 2, 4, 10}
	want := [][]int64{onto, onto, behind, onto, noRoom, closed, closed}
	s, _ := impl.NewStore(2, 2)
	h := impl.Resting()
	for i, ats := range want {
		h, _ = impl.ToPut(h, int64(i+1))
		var was []int64
		s, h, was = puttingOn.alone(t, s, h)
		checkList(t, "where it was", was, ats)
		reply := int64(impl.ReDone)
		if i > 3 {
			reply = impl.ReFull
		}
		checkHand(t, "at its end", h, true, restedWith(reply, -1), true)
	}
	checkList(t, "the chain", impl.ChainOf(s), []int64{0, 1})
	checkList(t, "what was put", impl.ValuesIn(s), []int64{1, 2, 3, 4})
	if s.Rings[0].Tail != 3 || s.Rings[1].Tail != 5 || !s.Rings[0].Closed || !s.Rings[1].Closed || s.Last != 1 {
		t.Errorf("%+v", s)
	}
}

// Two have made a ring each; the later one keeps its own as its Spare, and
// puts onto the other one's.
func TestWhoIsLateWithARingKeepsIt(t *testing.T) {
	s := linkedStore(3, 3, -1)
	s.Rings[0].Closed = true
	var hands [2]impl.Hand
	for who := range hands {
		hands[who] = impl.Hand{At: impl.AtMake, Value: 7 + int64(who), Spare: -1}
		s, hands[who], _ = impl.PutStep(s, hands[who])
	}
	s, hands[0], _ = impl.PutStep(s, hands[0]) // linked, and not yet swung
	s, late, ats := puttingOn.alone(t, s, hands[1])
	checkList(t, "who is late", ats, []int64{11, 1, 2, 3, 1, 2, 4, 5, 7})
	checkHand(t, "who is late", late, true, restedWith(impl.ReDone, 2), true)
	s, first, ats := puttingOn.alone(t, s, hands[0])
	checkList(t, "who was first", ats, []int64{12})
	checkHand(t, "who was first", first, true, restedWith(impl.ReDone, -1), true)
	checkList(t, "the chain", impl.ChainOf(s), []int64{0, 1})
	checkList(t, "what was put", impl.ValuesIn(s), []int64{7, 8})
	if s.Last != 1 {
		t.Errorf("Last is %d", s.Last)
	}
}
