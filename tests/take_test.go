package tests

import (
	"slices"
	"testing"

	"loop.example/g00610/impl"
)

var takingOn stepper = impl.TakeStep

func isForTaking(at int64) bool { return at >= firstForTaking && at <= lastAt }

func safePlace(no int64) impl.Place { return impl.Place{Safe: true, No: no} }

func unsafePlace(no int64) impl.Place { return impl.Place{No: no} }

func unsafeFull(no, value int64) impl.Place { return impl.Place{No: no, Full: true, Value: value} }

func ticketAt(ticket, at int64) func(h *impl.Hand) {
	return func(h *impl.Hand) { h.Ticket, h.At = ticket, at }
}

func hasSeen(ring, ticket int64, seen impl.Place) func(h *impl.Hand) {
	return func(h *impl.Hand) { h.Ring, h.Ticket, h.Seen = ring, ticket, seen }
}

func restGot(value, spare int64) func(h *impl.Hand) {
	return func(h *impl.Hand) { *h = impl.Hand{Value: value, Spare: spare, Reply: impl.ReGot} }
}

func firstIs(ring int64) func(s *impl.Store) {
	return func(s *impl.Store) { s.First = ring }
}

func firstCases() []stepCase {
	toTicket := func(ring int64) func(h *impl.Hand) {
		return func(h *impl.Hand) { h.Ring, h.At = ring, impl.AtTakeTicket }
	}
	return []stepCase{
		{"from another ring", impl.AtFirst, nil, onRing(1), nil, toTicket(0)},
		{"from First itself", impl.AtFirst, nil, onRing(0), nil, toTicket(0)},
		{"from Last", impl.AtFirst, nil, onRing(2), nil, toTicket(0)},
		{"to Last", impl.AtFirst, firstIs(2), onRing(0), nil, toTicket(2)},
		{"to the last ring of the list", impl.AtFirst, firstIs(3), onRing(0), nil, toTicket(3)},
	}
}

func takeTicketCases() []stepCase {
	return []stepCase{
		{"open", impl.AtTakeTicket, nil, onRing(1), headIs(1, 2), ticketAt(1, impl.AtSee)},
		{"Closed", impl.AtTakeTicket, nil, onRing(2), headIs(2, 6), ticketAt(5, impl.AtSee)},
		{"Closed and linked", impl.AtTakeTicket, nil, onRing(0), headIs(0, 8), ticketAt(7, impl.AtSee)},
		{"the first ticket", impl.AtTakeTicket, headIs(1, 0), onRing(1), headIs(1, 1), ticketAt(0, impl.AtSee)},
		{"the last ticket, open", impl.AtTakeTicket, headIs(1, mostNo-1), onRing(1), headIs(1, mostNo), ticketAt(mostNo-1, impl.AtSee)},
		{"the last ticket, Closed", impl.AtTakeTicket, headIs(2, mostNo-1), onRing(2), headIs(2, mostNo), ticketAt(mostNo-1, impl.AtSee)},
		{"Tail is the greatest", impl.AtTakeTicket, tailIs(1, mostNo), onRing(1), headIs(1, 2), ticketAt(1, impl.AtSee)},
	}
}

func seeCases() []stepCase {
	saw := func(p impl.Place, at int64) func(h *impl.Hand) {
		return func(h *impl.Hand) { h.Seen, h.At = p, at }
	}
	return []stepCase{
		{"its No above t", impl.AtSee, placeIs(1, 2, safePlace(5)), ringAndTicket(1, 2), nil, saw(safePlace(5), impl.AtTail)},
		{"its No above t, not Safe", impl.AtSee, nil, ringAndTicket(0, 1), nil, saw(unsafePlace(4), impl.AtTail)},
		{"its No above t, Full", impl.AtSee, nil, ringAndTicket(0, 3), nil, saw(full(6, 11), impl.AtTail)},
		{"its No above t, Full, not Safe", impl.AtSee, nil, ringAndTicket(3, 2), nil, saw(unsafeFull(5, 31), impl.AtTail)},
		{"Full, its No at t", impl.AtSee, nil, ringAndTicket(1, 1), nil, saw(full(1, 21), impl.AtGrab)},
		{"Full, its No at t, not Safe", impl.AtSee, nil, ringAndTicket(3, 5), nil, saw(unsafeFull(5, 31), impl.AtGrab)},
		{"Full, its No at t, Closed", impl.AtSee, nil, ringAndTicket(0, 8), nil, saw(full(8, 12), impl.AtGrab)},
		{"Full, its No below t", impl.AtSee, nil, ringAndTicket(1, 4), nil, saw(full(1, 21), impl.AtSpoil)},
		{"Full, its No far below t", impl.AtSee, nil, ringAndTicket(1, mostNo), nil, saw(full(1, 21), impl.AtSpoil)},
		{"Full, its No below t, not Safe", impl.AtSee, nil, ringAndTicket(3, 8), nil, saw(unsafeFull(5, 31), impl.AtSpoil)},
		{"not Full, its No at t", impl.AtSee, nil, ringAndTicket(1, 2), nil, saw(safePlace(2), impl.AtSkip)},
		{"not Full, its No below t", impl.AtSee, nil, ringAndTicket(1, 3), nil, saw(safePlace(0), impl.AtSkip)},
		{"not Full, its No at t, not Safe", impl.AtSee, nil, ringAndTicket(0, 4), nil, saw(unsafePlace(4), impl.AtSkip)},
		{"not Full, its No below t, not Safe", impl.AtSee, nil, ringAndTicket(0, mostNo), nil, saw(unsafePlace(4), impl.AtSkip)},
		{"t is 0, not Full", impl.AtSee, nil, ringAndTicket(1, 0), nil, saw(safePlace(0), impl.AtSkip)},
		{"t is 0, Full", impl.AtSee, placeIs(1, 0, full(0, 8)), ringAndTicket(1, 0), nil, saw(full(0, 8), impl.AtGrab)},
		{"t is the greatest, Full", impl.AtSee, placeIs(1, 1, full(mostNo, 8)), ringAndTicket(1, mostNo), nil, saw(full(mostNo, 8), impl.AtGrab)},
		{"the same is seen once more", impl.AtSee, nil, hasSeen(1, 3, safePlace(0)), nil, atOnly(impl.AtSkip)},
	}
}

// notSeenCases are those where the place is not what was Seen, or where t and
// Round are above MaxNo; AtSpoil asks no such number.
func notSeenCases(at int64) []stepCase {
	again := atOnly(impl.AtSee)
	return []stepCase{
		{"another No", at, nil, hasSeen(1, 3, safePlace(3)), nil, again},
		{"another Safe", at, nil, hasSeen(1, 3, unsafePlace(0)), nil, again},
		{"Full since then", at, nil, hasSeen(1, 1, safePlace(1)), nil, again},
		{"Full no more", at, nil, hasSeen(1, 2, full(2, 21)), nil, again},
		{"another Value", at, nil, hasSeen(1, 1, full(1, 22)), nil, again},
		{"seen at another place", at, nil, hasSeen(1, 2, full(1, 21)), nil, again},
		{"seen at another ring", at, nil, hasSeen(0, 1, full(1, 21)), nil, again},
		{"nothing seen", at, nil, hasSeen(1, 1, impl.Place{}), nil, again},
	}
}

// Round is 3, so a t of mostNo-3 is the last one by which a place may be left.
func tooFarCases(at int64) []stepCase {
	again := atOnly(impl.AtSee)
	return []stepCase{
		{"t and Round one above MaxNo, Full", at, placeIs(1, 2, full(mostNo-2, 8)), hasSeen(1, mostNo-2, full(mostNo-2, 8)), nil, again},
		{"t and Round one above MaxNo", at, nil, hasSeen(1, mostNo-2, safePlace(2)), nil, again},
		{"t is the greatest", at, nil, hasSeen(1, mostNo, full(1, 21)), nil, again},
		{"t and Round above MaxNo, not Safe", at, nil, hasSeen(0, mostNo, unsafePlace(4)), nil, again},
	}
}

func grabCases() []stepCase {
	noSpare := func(h *impl.Hand) { h.Ticket, h.Seen, h.Spare = 1, full(1, 21), -1 }
	noRingAsSpare := func(h *impl.Hand) { h.Ticket, h.Seen, h.Spare = 1, full(1, 21), 15 }
	noValue := func(h *impl.Hand) { h.Ticket, h.Seen, h.Value = 1, full(1, 21), 0 }
	left := placeIs(1, 1, safePlace(4))
	return slices.Concat(notSeenCases(impl.AtGrab), tooFarCases(impl.AtGrab), []stepCase{
		{"seen", impl.AtGrab, nil, hasSeen(1, 1, full(1, 21)), left, restGot(21, 3)},
		{"seen, not Safe", impl.AtGrab, nil, hasSeen(3, 5, unsafeFull(5, 31)), placeIs(3, 2, unsafePlace(8)), restGot(31, 3)},
		{"seen, Closed and linked", impl.AtGrab, nil, hasSeen(0, 6, full(6, 11)), placeIs(0, 0, safePlace(9)), restGot(11, 3)},
		{"seen, t is 0", impl.AtGrab, placeIs(1, 0, full(0, 8)), hasSeen(1, 0, full(0, 8)), placeIs(1, 0, safePlace(3)), restGot(8, 3)},
		{"seen, the least Value", impl.AtGrab, placeIs(1, 1, full(1, 1)), hasSeen(1, 1, full(1, 1)), left, restGot(1, 3)},
		{"seen, the greatest Value", impl.AtGrab, placeIs(1, 1, full(1, mostValue)), hasSeen(1, 1, full(1, mostValue)), left, restGot(mostValue, 3)},
		{"seen, t and Round at MaxNo", impl.AtGrab, placeIs(1, 1, full(mostNo-3, 8)), hasSeen(1, mostNo-3, full(mostNo-3, 8)), placeIs(1, 1, safePlace(mostNo)), restGot(8, 3)},
		{"seen, no Spare", impl.AtGrab, nil, noSpare, left, restGot(21, -1)},
		{"seen, no ring as Spare", impl.AtGrab, nil, noRingAsSpare, left, restGot(21, 15)},
		{"seen, no Value of its own", impl.AtGrab, nil, noValue, left, restGot(21, 3)},
		{"seen, its No below t", impl.AtGrab, nil, hasSeen(1, 4, full(1, 21)), placeIs(1, 1, safePlace(7)), restGot(21, 3)},
		{"seen, its No above t", impl.AtGrab, nil, hasSeen(0, 0, full(6, 11)), placeIs(0, 0, safePlace(3)), restGot(11, 3)},
		{"seen, not Full", impl.AtGrab, nil, hasSeen(1, 2, safePlace(2)), placeIs(1, 2, safePlace(5)), restGot(0, 3)},
	})
}

func spoilCases() []stepCase {
	signed := atOnly(impl.AtTail)
	return append(notSeenCases(impl.AtSpoil),
		stepCase{"seen", impl.AtSpoil, nil, hasSeen(1, 4, full(1, 21)), placeIs(1, 1, unsafeFull(1, 21)), signed},
		stepCase{"seen, not Safe already", impl.AtSpoil, nil, hasSeen(3, 8, unsafeFull(5, 31)), nil, signed},
		stepCase{"seen, Closed and linked", impl.AtSpoil, nil, hasSeen(0, 9, full(6, 11)), placeIs(0, 0, unsafeFull(6, 11)), signed},
		stepCase{"seen, t is the greatest", impl.AtSpoil, nil, hasSeen(1, mostNo, full(1, 21)), placeIs(1, 1, unsafeFull(1, 21)), signed},
		stepCase{"seen, its No at MaxNo", impl.AtSpoil, placeIs(1, 1, full(mostNo, 8)), hasSeen(1, mostNo, full(mostNo, 8)), placeIs(1, 1, unsafeFull(mostNo, 8)), signed},
		stepCase{"seen, not Full", impl.AtSpoil, nil, hasSeen(1, 2, safePlace(2)), placeIs(1, 2, unsafePlace(2)), signed},
	)
}

func skipCases() []stepCase {
	signed := atOnly(impl.AtTail)
	return slices.Concat(notSeenCases(impl.AtSkip), tooFarCases(impl.AtSkip), []stepCase{
		{"seen, its No at t", impl.AtSkip, nil, hasSeen(1, 2, safePlace(2)), placeIs(1, 2, safePlace(5)), signed},
		{"seen, its No below t", impl.AtSkip, nil, hasSeen(1, 9, safePlace(0)), placeIs(1, 0, safePlace(12)), signed},
		{"seen, not Safe", impl.AtSkip, nil, hasSeen(0, 7, unsafePlace(4)), placeIs(0, 1, unsafePlace(10)), signed},
		{"seen, t is 0", impl.AtSkip, nil, hasSeen(1, 0, safePlace(0)), placeIs(1, 0, safePlace(3)), signed},
		{"seen, Closed", impl.AtSkip, nil, hasSeen(2, 5, safePlace(2)), placeIs(2, 2, safePlace(8)), signed},
		{"seen, t and Round at MaxNo", impl.AtSkip, nil, hasSeen(0, mostNo-3, unsafePlace(4)), placeIs(0, 1, unsafePlace(mostNo)), signed},
		{"seen, Full", impl.AtSkip, nil, hasSeen(1, 1, full(1, 21)), placeIs(1, 1, safePlace(4)), signed},
	})
}

// Tail of ring 1 is 2, so a t of 1 is the first one that it is not beyond.
func tailCases() []stepCase {
	on, none := atOnly(impl.AtTakeTicket), atOnly(impl.AtFixHead)
	return []stepCase{
		{"one below t and 1", impl.AtTail, nil, ringAndTicket(1, 2), nil, none},
		{"at t and 1", impl.AtTail, nil, ringAndTicket(1, 1), nil, none},
		{"above t and 1", impl.AtTail, nil, ringAndTicket(1, 0), nil, on},
		{"at t and 1 of another ring", impl.AtTail, nil, ringAndTicket(3, 29), nil, none},
		{"above t and 1 of another ring", impl.AtTail, nil, ringAndTicket(3, 28), nil, on},
		{"Closed, at t and 1", impl.AtTail, nil, ringAndTicket(0, 8), nil, none},
		{"Closed, above t and 1", impl.AtTail, nil, ringAndTicket(0, 7), nil, on},
		{"Tail is 0", impl.AtTail, tailIs(1, 0), ringAndTicket(1, 0), nil, none},
		{"t is the greatest", impl.AtTail, nil, ringAndTicket(1, mostNo), nil, none},
		{"t and Tail are the greatest", impl.AtTail, tailIs(1, mostNo), ringAndTicket(1, mostNo), nil, none},
		{"Tail is the greatest, at t and 1", impl.AtTail, tailIs(1, mostNo), ringAndTicket(1, mostNo-1), nil, none},
		{"Tail is the greatest, above t and 1", impl.AtTail, tailIs(1, mostNo), ringAndTicket(1, mostNo-2), nil, on},
	}
}

func fixHeadCases() []stepCase {
	return []stepCase{
		{"open", impl.AtFixHead, nil, onRing(3), nil, triesAt(3, impl.AtFixTail)},
		{"Closed", impl.AtFixHead, nil, onRing(2), nil, triesAt(5, impl.AtFixTail)},
		{"Closed and linked", impl.AtFixHead, nil, onRing(0), nil, triesAt(7, impl.AtFixTail)},
		{"Head is 0", impl.AtFixHead, headIs(1, 0), onRing(1), nil, triesAt(0, impl.AtFixTail)},
		{"Head is the greatest", impl.AtFixHead, headIs(1, mostNo), onRing(1), nil, triesAt(mostNo, impl.AtFixTail)},
	}
}

func fixTailCases() []stepCase {
	ringAndTries := func(ring, tries int64) func(h *impl.Hand) {
		return func(h *impl.Hand) { h.Ring, h.Tries = ring, tries }
	}
	enough := atOnly(impl.AtEmpty)
	return []stepCase{
		{"Tries below Tail", impl.AtFixTail, nil, ringAndTries(1, 1), nil, enough},
		{"Tries at Tail", impl.AtFixTail, nil, ringAndTries(1, 2), nil, enough},
		{"Tries above Tail", impl.AtFixTail, nil, ringAndTries(1, 3), nil, ticketAt(2, impl.AtFixSwap)},
		{"Tries far above Tail", impl.AtFixTail, nil, ringAndTries(1, mostNo), nil, ticketAt(2, impl.AtFixSwap)},
		{"Tries above Tail of another ring", impl.AtFixTail, nil, ringAndTries(3, 31), nil, ticketAt(30, impl.AtFixSwap)},
		{"Tries and Tail 0", impl.AtFixTail, tailIs(1, 0), ringAndTries(1, 0), nil, enough},
		{"Tries above a Tail of 0", impl.AtFixTail, tailIs(1, 0), ringAndTries(1, 1), nil, ticketAt(0, impl.AtFixSwap)},
		{"Tries and Tail the greatest", impl.AtFixTail, tailIs(1, mostNo), ringAndTries(1, mostNo), nil, enough},
		{"Closed, Tries below Tail", impl.AtFixTail, nil, ringAndTries(2, 3), nil, enough},
		{"Closed, Tries at Tail", impl.AtFixTail, nil, ringAndTries(2, 4), nil, enough},
		{"Closed, Tries above Tail", impl.AtFixTail, nil, ringAndTries(2, 5), nil, enough},
		{"Closed and linked, Tries above Tail", impl.AtFixTail, nil, ringAndTries(0, 10), nil, enough},
	}
}

func fixSwapCases() []stepCase {
	has := func(ring, ticket, tries int64) func(h *impl.Hand) {
		return func(h *impl.Hand) { h.Ring, h.Ticket, h.Tries = ring, ticket, tries }
	}
	raised, again := atOnly(impl.AtEmpty), atOnly(impl.AtFixHead)
	return []stepCase{
		{"Tail is Ticket", impl.AtFixSwap, nil, has(1, 2, 5), tailIs(1, 5), raised},
		{"Tail is Ticket, by one", impl.AtFixSwap, nil, has(1, 2, 3), tailIs(1, 3), raised},
		{"Tail is Ticket, up to MaxNo", impl.AtFixSwap, nil, has(1, 2, mostNo), tailIs(1, mostNo), raised},
		{"Tail is Ticket, and Tries", impl.AtFixSwap, nil, has(1, 2, 2), nil, raised},
		{"Tail is Ticket, Tries below", impl.AtFixSwap, nil, has(1, 2, 1), tailIs(1, 1), raised},
		{"Tail is Ticket, of another ring", impl.AtFixSwap, nil, has(3, 30, 33), tailIs(3, 33), raised},
		{"Tail is below Ticket", impl.AtFixSwap, nil, has(1, 3, 5), nil, again},
		{"Tail is above Ticket", impl.AtFixSwap, nil, has(1, 1, 5), nil, again},
		{"Tail is Tries", impl.AtFixSwap, nil, has(1, 1, 2), nil, again},
		{"Closed, Tail is Ticket", impl.AtFixSwap, nil, has(2, 4, 5), nil, again},
		{"Closed and linked, Tail is Ticket", impl.AtFixSwap, nil, has(0, 9, 10), nil, again},
		{"Closed, Tail is not Ticket", impl.AtFixSwap, nil, has(2, 3, 5), nil, again},
	}
}

func emptyCases() []stepCase {
	firstTime := func(ring, spare int64) func(h *impl.Hand) {
		return func(h *impl.Hand) { h.Ring, h.Spare, h.Again = ring, spare, false }
	}
	onceMore := func(h *impl.Hand) { h.Again, h.At = true, impl.AtTakeTicket }
	return []stepCase{
		{"Again, a Next", impl.AtEmpty, nil, onRing(0), nil, atOnly(impl.AtMove)},
		{"Again, no Next", impl.AtEmpty, nil, onRing(1), nil, atOnly(impl.AtMove)},
		{"Again, no Next, Closed", impl.AtEmpty, nil, onRing(2), nil, atOnly(impl.AtMove)},
		{"no Next, open", impl.AtEmpty, nil, firstTime(1, 3), nil, rest(impl.ReEmpty, 3)},
		{"no Next, Closed", impl.AtEmpty, nil, firstTime(2, 3), nil, rest(impl.ReEmpty, 3)},
		{"no Next, no Spare", impl.AtEmpty, nil, firstTime(1, -1), nil, rest(impl.ReEmpty, -1)},
		{"no Next, no ring as Spare", impl.AtEmpty, nil, firstTime(1, 15), nil, rest(impl.ReEmpty, 15)},
		{"a Next", impl.AtEmpty, nil, firstTime(0, 3), nil, onceMore},
		{"a Next that is ring 0", impl.AtEmpty, leadsToRing0, firstTime(1, 3), nil, onceMore},
	}
}

func moveCases() []stepCase {
	firstTime := func(h *impl.Hand) { h.Ring, h.Again = 0, false }
	fromRing1 := func(s *impl.Store) { leadsToRing0(s); s.First = 1 }
	moved := func(h *impl.Hand) { h.Again, h.At = false, impl.AtFirst }
	return []stepCase{
		{"First is r", impl.AtMove, nil, onRing(0), firstIs(2), moved},
		{"First is r, to ring 0", impl.AtMove, fromRing1, onRing(1), firstIs(0), moved},
		{"First is r, not Again", impl.AtMove, nil, firstTime, firstIs(2), moved},
		{"First and Last are r", impl.AtMove, lastIs(0), onRing(0), firstIs(2), moved},
		{"First is not r any more", impl.AtMove, firstIs(2), onRing(0), nil, moved},
		{"First is neither r nor its Next", impl.AtMove, firstIs(3), onRing(0), nil, moved},
		{"First is not r yet", impl.AtMove, leadsToRing0, onRing(1), nil, moved},
		{"First is r, no Next", impl.AtMove, firstIs(1), onRing(1), nil, moved},
		{"First is r, no Next, Closed", impl.AtMove, firstIs(2), onRing(2), nil, moved},
		{"First is not r, no Next", impl.AtMove, nil, onRing(3), nil, moved},
		{"Last is r, First is not, no Next", impl.AtMove, nil, onRing(2), nil, moved},
	}
}

func everyTakeCase() []stepCase {
	return slices.Concat(
		firstCases(), takeTicketCases(), seeCases(), grabCases(), spoilCases(), skipCases(),
		tailCases(), fixHeadCases(), fixTailCases(), fixSwapCases(), emptyCases(), moveCases(),
	)
}

// refusedTakeCases are those where nothing is done, of a Store and a Hand that
// are right.
func refusedTakeCases() []stepCase {
	return append(refusedAtOthers(isForTaking),
		stepCase{"no ticket left, open", impl.AtTakeTicket, headIs(1, mostNo), onRing(1), nil, asItIs},
		stepCase{"no ticket left, Closed", impl.AtTakeTicket, headIs(2, mostNo), onRing(2), nil, asItIs},
		stepCase{"no ticket left, Closed and linked", impl.AtTakeTicket, headIs(0, mostNo), onRing(0), nil, asItIs})
}

func TestTakeStep(t *testing.T) { takingOn.checkCases(t, everyTakeCase(), true) }

func TestTakeStepRefused(t *testing.T) { takingOn.checkCases(t, refusedTakeCases(), false) }

// What a step does not name stays, whatever it is; but for resting, which is
// told by the cases above. No ring has to be there for the Spare of who takes.
func TestTakeStepKeepsWhatItDoesNotName(t *testing.T) {
	for _, c := range everyTakeCase() {
		for reply := range int64(lastReply + 1) {
			for _, spare := range []int64{-1, 0, 4, 15} {
				keep := func(h *impl.Hand) { h.Value, h.Spare, h.Reply = 40+reply, spare, reply }
				s, h := c.given()
				then, hand := c.wanted()
				keep(&h)
				if hand.At == impl.AtRest {
					hand.Spare = spare
				} else {
					keep(&hand)
				}
				takingOn.check(t, c.name, s, h, then, hand, true)
			}
		}
	}
}

func TestTakeStepKeepsAgain(t *testing.T) {
	for _, c := range everyTakeCase() {
		if c.at == impl.AtEmpty || c.at == impl.AtMove {
			continue
		}
		s, h := c.given()
		then, hand := c.wanted()
		h.Again = false
		hand.Again = false
		takingOn.check(t, c.name+", not Again", s, h, then, hand, true)
	}
}

func TestTakeStepOfEveryRound(t *testing.T) {
	for round := int64(2); round <= 8; round++ {
		for ticket := range 3 * round {
			at := ticket % round
			s, then := linkedStore(round, 2, -1), linkedStore(round, 2, -1)
			h := impl.Hand{At: impl.AtSee, Ticket: ticket, Spare: -1}
			skips := impl.Hand{At: impl.AtSkip, Ticket: ticket, Seen: safePlace(at), Spare: -1}
			takingOn.check(t, "AtSee", s, h, s, skips, true)
			then.Rings[0].Places[at] = safePlace(ticket + round)
			signed := skips
			signed.At = impl.AtTail
			takingOn.check(t, "AtSkip", s, skips, then, signed, true)
			s.Rings[0].Places[at] = full(ticket, 7)
			grabs := impl.Hand{At: impl.AtGrab, Ticket: ticket, Seen: full(ticket, 7), Spare: -1}
			takingOn.check(t, "AtSee, Full", s, h, s, grabs, true)
			takingOn.check(t, "AtGrab", s, grabs, then, impl.Hand{Value: 7, Spare: -1, Reply: impl.ReGot}, true)
		}
	}
}

func TestTakeStepOfWhatIsNoStore(t *testing.T) { takingOn.checkNoStores(t) }

func TestTakeStepOfWhatIsNoHand(t *testing.T) { takingOn.checkNoHands(t) }

func TestTakeStepAtTheEndsOfNumbers(t *testing.T) { takingOn.checkEndsOfNumbers(t) }

func TestTakeStepSharesNoMemoryWithTheArgument(t *testing.T) {
	takingOn.checkApartFromTheArgument(t, append(everyTakeCase(), refusedTakeCases()...))
}

func TestTakeStepSharesNoMemoryWithinAnAnswer(t *testing.T) {
	takingOn.checkApartWithinAnAnswer(t, append(everyTakeCase(), refusedTakeCases()...))
}

func TestTakeStepLeavesWhatIsNotRight(t *testing.T) { takingOn.checkLeavesWhatIsNotRight(t) }

// One alone takes what is there, ring by ring, and then finds nothing.
func TestOneTakesAlone(t *testing.T) {
	s, _ := impl.NewStore(2, 2)
	h := impl.Resting()
	for value := int64(1); value <= 3; value++ {
		h, _ = impl.ToPut(h, value)
		s, h, _ = puttingOn.alone(t, s, h)
	}
	checkList(t, "what was put", impl.ValuesIn(s), []int64{1, 2, 3})
	checkList(t, "the chain", impl.ChainOf(s), []int64{0, 1})
	gets := []int64{13, 14, 15, 16}
	getsBehind := []int64{13, 14, 15, 18, 19, 20, 21, 23, 14, 15, 18, 19, 20, 21, 23, 24, 13, 14, 15, 16}
	none := []int64{13, 14, 15, 18, 19, 20, 21, 22, 23}
	for i, want := range [][]int64{gets, gets, getsBehind, none, none} {
		var ats []int64
		h, _ = impl.ToTake(h)
		s, h, ats = takingOn.alone(t, s, h)
		checkList(t, "where it was", ats, want)
		rested := impl.Hand{Value: int64(i + 1), Spare: -1, Reply: impl.ReGot}
		if i > 2 {
			rested = restedWith(impl.ReEmpty, -1)
		}
		checkHand(t, "at its end", h, true, rested, true)
	}
	checkList(t, "what is left", impl.ValuesIn(s), nil)
	checkList(t, "the chain at the end", impl.ChainOf(s), []int64{1})
}

// Of two who saw the same place, one alone gets what is on it.
func TestWhoIsLateAtAPlaceSeesItAgain(t *testing.T) {
	s, _ := impl.NewStore(2, 1)
	s.Rings[0].Places[0], s.Rings[0].Head, s.Rings[0].Tail = full(0, 7), 1, 1
	grabs := impl.Hand{At: impl.AtGrab, Seen: full(0, 7), Spare: -1}
	s, first, _ := impl.TakeStep(s, grabs)
	checkHand(t, "who is first", first, true, impl.Hand{Value: 7, Spare: -1, Reply: impl.ReGot}, true)
	s, late, ats := takingOn.alone(t, s, grabs)
	checkHand(t, "who is late", late, true, restedWith(impl.ReEmpty, -1), true)
	checkList(t, "who is late", ats, []int64{16, 15, 19, 20, 21, 23})
	checkList(t, "what is left", impl.ValuesIn(s), nil)
}

// A market is of hands that put and take one thing after the other, each thing
// put being a Value of its own, in turns that a lottery draws.
type market struct {
	lottery
	tally
	store  impl.Store
	hands  []impl.Hand
	begins int64
	put    []int64
	got    []int64
}

func newMarket(seed lottery, hands, begins int64) *market {
	m := &market{lottery: seed, begins: begins}
	m.store, _ = impl.NewStore(m.draw(2, 5), m.draw(1, 8))
	for range hands {
		m.hands = append(m.hands, impl.Resting())
	}
	return m
}

// onRings are the Values on all rings, also on those that First has left, where
// who drew its number in time may still take; not on one that is yet to be
// linked.
func (m *market) onRings() []int64 {
	var unlinked [mostRings]bool
	for _, h := range m.hands {
		if h.Spare != -1 && h.At != impl.AtSwing {
			unlinked[h.Spare] = true
		}
	}
	var all []int64
	for ring, r := range m.store.Rings {
		for _, p := range r.Places {
			if p.Full && !unlinked[ring] {
				all = append(all, p.Value)
			}
		}
	}
	return all
}

func (m *market) begin(who int) {
	m.begins--
	if m.draw(0, 2) == 0 {
		m.hands[who], _ = impl.ToPut(m.hands[who], 100+m.begins)
		return
	}
	m.hands[who], _ = impl.ToTake(m.hands[who])
}

func (m *market) putOn(t *testing.T, who int) {
	t.Helper()
	value := m.hands[who].Value
	s, h, is := impl.PutStep(m.store, m.hands[who])
	if !is {
		t.Fatalf("%+v, %+v: nothing is done", m.store, m.hands[who])
	}
	m.store, m.hands[who] = s, h
	if h.Reply == impl.ReDone {
		m.put = append(m.put, value)
	}
}

func (m *market) takeOn(t *testing.T, who int) {
	t.Helper()
	was, there, h := copied(m.store), m.onRings(), m.hands[who]
	s, then, is := impl.TakeStep(m.store, h)
	if !is || !impl.StoreOk(s) || !impl.HandOk(then) || !sameStore(m.store, was) {
		t.Fatalf("%+v, %+v: %+v, %+v, %v", was, h, s, then, is)
	}
	if changes := changesOf(was, s, -1); changes > 1 {
		t.Fatalf("%+v, %+v: %d things at a time, %+v", was, h, changes, s)
	}
	m.store, m.hands[who] = s, then
	if then.Reply == impl.ReGot {
		m.got = append(m.got, then.Value)
		there = slices.DeleteFunc(there, func(value int64) bool { return value == then.Value })
	}
	checkList(t, "what is there behind a step of who takes", m.onRings(), there)
	if t.Failed() {
		t.Fatalf("%+v, %+v: %+v, %+v", was, h, s, then)
	}
}

func (m *market) turn(t *testing.T, who int) {
	t.Helper()
	h := m.hands[who]
	switch {
	case h.At == impl.AtRest:
		m.begin(who)
		return
	case isForPutting(h.At):
		m.putOn(t, who)
	default:
		m.takeOn(t, who)
	}
	m.steps[h.At]++
	if m.hands[who].At == impl.AtRest {
		m.replies[m.hands[who].Reply]++
	}
}

func (m *market) busy() []int {
	var all []int
	for who, h := range m.hands {
		if h.At != impl.AtRest || m.begins > 0 {
			all = append(all, who)
		}
	}
	return all
}

// run goes on till all rest. One of them has most of the turns, now this one
// and now that one, so that others are late.
func (m *market) run(t *testing.T, turn func(t *testing.T, who int)) {
	t.Helper()
	for busy, turns := m.busy(), 0; len(busy) > 0; busy, turns = m.busy(), turns+1 {
		if turns == 5000 {
			t.Fatalf("no end: %+v, %+v", m.store, m.hands)
		}
		who := busy[m.draw(0, int64(len(busy)))]
		for range m.draw(1, 9) {
			if m.begins > 0 || m.hands[who].At != impl.AtRest {
				turn(t, who)
			}
		}
	}
}

func TestWhoTakesTakesNoMoreThanOne(t *testing.T) {
	const markets, begins = 400, 30
	var all tally
	for seed := range lottery(markets) {
		m := newMarket(seed*971+3, 5, begins)
		m.run(t, m.turn)
		left := append(impl.ValuesIn(m.store), m.got...)
		slices.Sort(left)
		slices.Sort(m.put)
		checkList(t, "what was got or is there, of what was put", left, m.put)
		all.add(m.tally)
	}
	all.checkSteps(t, firstForPutting, lastAt)
	all.checkReplies(t)
	rested := 0
	for _, n := range all.replies {
		rested += n
	}
	if rested != markets*begins {
		t.Errorf("replies %v", all.replies)
	}
}
