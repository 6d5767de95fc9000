package tests

import (
	"math"
	"slices"
	"testing"

	"loop.example/g00610/impl"
)

const mostAlone = 1000

func mostsInRange() []int64 { return []int64{0, 1, 2, 3, 7, 40, mostAlone - 1, mostAlone} }

// toPut and toTake are hands at their first step, written out here so that
// chapter 9 is tested alone.
func toPut(value int64) impl.Hand { return impl.Hand{At: firstForPutting, Value: value, Spare: -1} }

func toTake() impl.Hand { return impl.Hand{At: firstForTaking, Spare: -1} }

// filledStore has on each of its rings, linked one behind the other, as many
// Values as are told, put one after the other from 1 on; First is the first
// ring, Last the last one, and each ring ahead of Last is Closed.
func filledStore(round, most int64, counts ...int64) impl.Store {
	nexts := make([]int64, len(counts))
	for i := range nexts {
		nexts[i] = int64(i) + 1
	}
	nexts[len(nexts)-1] = -1
	s := linkedStore(round, most, nexts...)
	s.Last = int64(len(counts)) - 1
	value := int64(0)
	for ring, count := range counts {
		s.Rings[ring].Tail = count
		for at := range count {
			value++
			s.Rings[ring].Places[at] = full(at, value)
		}
	}
	return s
}

func changed(s impl.Store, changes ...func(s *impl.Store)) impl.Store {
	s = copied(s)
	for _, change := range changes {
		change(&s)
	}
	return s
}

func closedIs(ring int64) func(s *impl.Store) {
	return func(s *impl.Store) { s.Rings[ring].Closed = true }
}

// An aloneCase is a Store and a Hand, where the Hand is ahead of each of its
// steps, and what both are then. Where it does not come to rest, nothing is
// done any more.
type aloneCase struct {
	name      string
	store     impl.Store
	hand      impl.Hand
	ats       []int64
	thenStore impl.Store
	thenHand  impl.Hand
}

func putAloneCases() []aloneCase {
	onto, behind, closed := []int64{1, 2, 4, 5, 7}, []int64{1, 2, 4, 5, 8, 9, 10, 11, 12}, []int64{1, 2, 4, 10}
	one := filledStore(2, 2, 1)
	both := filledStore(2, 2, 2)
	late := changed(filledStore(2, 3, 2, 1), lastIs(0))
	made := func(s *impl.Store) {
		s.Rings = append(s.Rings, seededRing(2, 70))
		s.Rings[0].Closed, s.Rings[0].Next, s.Rings[0].Tail, s.Last = true, 1, 3, 1
	}
	done := restedWith(impl.ReDone, -1)
	return []aloneCase{
		{"put onto an empty ring", filledStore(2, 2, 0), toPut(70), onto,
			changed(filledStore(2, 2, 0), tailIs(0, 1), placeIs(0, 0, full(0, 70))), done},
		{"put behind another one", one, toPut(70), onto,
			changed(one, tailIs(0, 2), placeIs(0, 1, full(1, 70))), done},
		{"put where a ring has to be made", both, toPut(70), behind, changed(both, made), done},
		{"put where there are Most", filledStore(2, 1, 2), toPut(70), behind[:7],
			changed(filledStore(2, 1, 2), tailIs(0, 3), closedIs(0)), restedWith(impl.ReFull, -1)},
		{"put where there are Most, Closed", changed(filledStore(2, 1, 2), closedIs(0)), toPut(70), closed,
			changed(filledStore(2, 1, 2), tailIs(0, 3), closedIs(0)), restedWith(impl.ReFull, -1)},
		{"put where Last is Closed", changed(filledStore(2, 2, 2), closedIs(0)), toPut(70), []int64{1, 2, 4, 10, 11, 12},
			changed(both, made), done},
		{"put where Last is behind", late, toPut(70), append([]int64{1, 2, 3}, onto...),
			changed(late, lastIs(1), tailIs(1, 2), placeIs(1, 1, full(1, 70))), done},
	}
}

func takeAloneCases() []aloneCase {
	none := []int64{13, 14, 15, 18, 19, 20, 21, 22, 23}
	move := []int64{13, 14, 15, 18, 19, 20, 21, 23, 14, 15, 18, 19, 20, 21, 23, 24, 13, 14, 15, 16}
	got := func(value int64) impl.Hand { return impl.Hand{Value: value, Spare: -1, Reply: impl.ReGot} }
	return []aloneCase{
		{"take from an empty ring", filledStore(2, 2, 0), toTake(), none,
			changed(filledStore(2, 2, 0), headIs(0, 1), tailIs(0, 1), placeIs(0, 0, safePlace(2))), restedWith(impl.ReEmpty, -1)},
		{"take the only one", filledStore(2, 2, 1), toTake(), []int64{13, 14, 15, 16},
			changed(filledStore(2, 2, 1), headIs(0, 1), placeIs(0, 0, safePlace(2))), got(1)},
		{"take the first of two rings", filledStore(2, 2, 2, 1), toTake(), []int64{13, 14, 15, 16},
			changed(filledStore(2, 2, 2, 1), headIs(0, 1), placeIs(0, 0, safePlace(2))), got(1)},
		{"take from the second ring", filledStore(2, 2, 0, 2), toTake(), move,
			changed(filledStore(2, 2, 0, 2), firstIs(1), headIs(0, 2), placeIs(0, 0, safePlace(2)), placeIs(0, 1, safePlace(3)),
				headIs(1, 1), placeIs(1, 0, safePlace(2))), got(1)},
	}
}

// stuckCases are those of which nothing is done any more before they rest.
func stuckCases() []aloneCase {
	at := func(h impl.Hand, change func(h *impl.Hand)) impl.Hand {
		change(&h)
		return h
	}
	noTicket := changed(filledStore(2, 3, 0, 0), tailIs(1, mostNo))
	oneTicket := changed(filledStore(2, 2, 2), headIs(0, mostNo-2), tailIs(0, mostNo-1))
	late := changed(noTicket, lastIs(0))
	noHead := changed(filledStore(2, 2, 2), headIs(0, mostNo))
	checks := impl.Hand{At: impl.AtCheck, Value: 70, Tries: mostNo, Spare: -1}
	return []aloneCase{
		{"no ticket to put", noTicket, toPut(70), []int64{1, 2}, noTicket,
			at(toPut(70), func(h *impl.Hand) { h.At, h.Ring = impl.AtPutTicket, 1 })},
		{"no ticket to put, Last behind", late, toPut(70), []int64{1, 2, 3, 1, 2}, noTicket,
			at(toPut(70), func(h *impl.Hand) { h.At, h.Ring, h.Ticket = impl.AtPutTicket, 1, 1 })},
		{"the last ticket to put is used up", oneTicket, toPut(70), []int64{1, 2, 4, 5, 8}, changed(oneTicket, tailIs(0, mostNo)),
			at(toPut(70), func(h *impl.Hand) {
				h.At, h.Ticket, h.Tries, h.Seen = impl.AtPutTicket, mostNo-1, 1, full(1, 2)
			})},
		{"no more Tries", filledStore(2, 2, 1), checks, nil, filledStore(2, 2, 1), checks},
		{"no ticket to take", noHead, toTake(), []int64{13}, noHead,
			at(toTake(), func(h *impl.Hand) { h.At = impl.AtTakeTicket })},
	}
}

func atRestCases() []aloneCase {
	var all []aloneCase
	for _, s := range []impl.Store{usedStore(), filledStore(2, 2, 1), wideStore()} {
		for _, h := range everyAtRest() {
			all = append(all, aloneCase{"at rest", s, h, nil, s, h})
		}
	}
	return all
}

func everyAloneCase() []aloneCase {
	return slices.Concat(putAloneCases(), takeAloneCases(), stuckCases(), atRestCases())
}

func checkAlone(t *testing.T, name string, s impl.Store, h impl.Hand, most int64, wantStore impl.Store, wantHand impl.Hand, want int64) {
	t.Helper()
	got, hand, steps := impl.Alone(s, h, most)
	checkStore(t, name, got, wantStore)
	checkHand(t, name, hand, true, wantHand, true)
	if steps != want {
		t.Errorf("%s, most %d: %d steps, not %d", name, most, steps, want)
	}
}

func checkNotAlone(t *testing.T, name string, s impl.Store, h impl.Hand, most int64) {
	t.Helper()
	checkAlone(t, name, s, h, most, impl.Store{}, impl.Hand{}, -1)
}

func TestMaxAlone(t *testing.T) {
	if impl.MaxAlone != mostAlone {
		t.Errorf("MaxAlone %d", impl.MaxAlone)
	}
}

// One fewer than it takes is among the steps ahead of the last one.
func TestAloneOfAsManyAsItTakes(t *testing.T) {
	for _, c := range everyAloneCase() {
		n := int64(len(c.ats))
		for _, most := range []int64{n, n + 1, n + 2, mostAlone - 1, mostAlone} {
			checkAlone(t, c.name, c.store, c.hand, most, c.thenStore, c.thenHand, n)
		}
		for most, at := range c.ats {
			_, h, steps := impl.Alone(c.store, c.hand, int64(most))
			if steps != int64(most) || h.At != at {
				t.Errorf("%s, most %d: %d steps, At %d, not %d", c.name, most, steps, h.At, at)
			}
		}
	}
}

func TestAloneOfNoneAtAll(t *testing.T) {
	for _, c := range everyAloneCase() {
		checkAlone(t, c.name, c.store, c.hand, 0, c.store, c.hand, 0)
	}
}

func TestAloneOutOfRange(t *testing.T) {
	for _, c := range everyAloneCase() {
		for _, most := range outside(0, mostAlone) {
			checkNotAlone(t, c.name, c.store, c.hand, most)
		}
	}
}

// byStepped goes on by Stepped, one by one.
func byStepped(s impl.Store, h impl.Hand, most int64) (impl.Store, impl.Hand, int64) {
	for steps := range most {
		then, hand, is := impl.Stepped(s, h)
		if !is || h.At == impl.AtRest {
			return s, h, steps
		}
		s, h = then, hand
	}
	return s, h, most
}

// fittingStepCases are all of chapters 6 and 7 that Fit, refused ones as well.
func fittingStepCases() []stepCase {
	return slices.DeleteFunc(append(everyStepCase(), refusedStepCases()...), func(c stepCase) bool {
		s, h := c.given()
		return !impl.Fits(s, h)
	})
}

func TestAloneIsSteppedOneByOne(t *testing.T) {
	for _, c := range fittingStepCases() {
		s, h := c.given()
		for _, most := range mostsInRange() {
			then, hand, steps := byStepped(s, h, most)
			checkAlone(t, c.name, s, h, most, then, hand, steps)
		}
	}
}

func checkInTwoParts(t *testing.T, name string, s impl.Store, h impl.Hand, a, b int64) {
	t.Helper()
	then, hand, steps := impl.Alone(s, h, a+b)
	one, with, first := impl.Alone(s, h, a)
	two, at, second := impl.Alone(one, with, b)
	checkStore(t, name, two, then)
	checkHand(t, name, at, true, hand, true)
	if first+second != steps {
		t.Errorf("%s: %d of %d and %d of %d, not %d", name, first, a, second, b, steps)
	}
}

func TestAloneInTwoParts(t *testing.T) {
	for _, c := range everyAloneCase() {
		n := int64(len(c.ats))
		for a := range n + 2 {
			for b := range n + 2 - a {
				checkInTwoParts(t, c.name, c.store, c.hand, a, b)
			}
		}
	}
	for _, c := range fittingStepCases() {
		s, h := c.given()
		for _, a := range []int64{0, 1, 2, 5, 400} {
			for _, b := range []int64{0, 1, 3, 600} {
				checkInTwoParts(t, c.name, s, h, a, b)
			}
		}
	}
}

// Each of the reasons for which chapter 8 says that one does not fit.
func TestAloneOfWhatDoesNotFit(t *testing.T) {
	for _, most := range []int64{-1, 0, 1, mostAlone, mostAlone + 1} {
		for at := int64(firstForPutting); at <= lastAt; at++ {
			for _, ring := range []int64{4, 5, 15} {
				h := busyHand(at)
				h.Ring, h.Spare = ring, -1
				checkNotAlone(t, "no such ring", usedStore(), h, most)
				h.Ring, h.Spare = 1, ring
				checkNotAlone(t, "no such Spare", usedStore(), h, most)
				h.Ring = ring
				checkNotAlone(t, "neither ring nor Spare", usedStore(), h, most)
			}
		}
	}
}

func TestAloneOfWhatIsNotRight(t *testing.T) {
	for _, most := range []int64{-1, 0, 1, mostAlone, mostAlone + 1} {
		for name, s := range wrongStores() {
			for at := range int64(lastAt + 1) {
				h := busyHand(at)
				h.Ring, h.Spare = 0, -1
				checkNotAlone(t, name, s, h, most)
			}
			checkNotAlone(t, name+", at rest", s, impl.Resting(), most)
		}
		for _, h := range noHands() {
			checkNotAlone(t, "no hand", wideStore(), h, most)
			checkNotAlone(t, "neither", impl.Store{}, h, most)
		}
	}
}

// farBehind has as many numbers as that, on ring 0, for which nothing was put,
// ahead of the Values on ring 1.
func farBehind(tail int64) impl.Store {
	return changed(filledStore(2, 2, 0, 2), tailIs(0, tail))
}

// Each number that is passed over takes 4 steps: to draw it, to see, to skip,
// and to ask for Tail; behind the first step, 249 of them, and 3 of the next.
func TestAloneGoesNoFurtherThanMost(t *testing.T) {
	s := farBehind(400)
	then := changed(s, headIs(0, 250), placeIs(0, 0, safePlace(250)), placeIs(0, 1, safePlace(251)))
	h := impl.Hand{At: impl.AtTail, Ticket: 249, Seen: safePlace(249), Spare: -1}
	checkAlone(t, "to skip", s, toTake(), mostAlone, then, h, mostAlone)
	got, reply, value := impl.TakeAlone(s)
	checkTaken(t, "far behind", got, reply, value, then, impl.ReNone, 0)
	checkList(t, "Drained, far behind", impl.Drained(s), nil)
	checkList(t, "Drained, not so far behind", impl.Drained(farBehind(200)), []int64{1, 2})
}

// Ahead of ticket 262 there are 262 to pass over: with 4 steps each, but for
// the 52 of the same place, which need no skip; and 1 and 3 steps for the rest.
func TestAloneMeetsMostExactly(t *testing.T) {
	s := changed(filledStore(5, 1, 0), tailIs(0, 264), placeIs(0, 2, full(262, 9)))
	_, h, steps := impl.Alone(s, toTake(), mostAlone)
	checkHand(t, "at its end", h, true, impl.Hand{Value: 9, Spare: -1, Reply: impl.ReGot}, true)
	if steps != mostAlone {
		t.Errorf("%d steps", steps)
	}
	_, reply, value := impl.TakeAlone(s)
	if reply != impl.ReGot || value != 9 {
		t.Errorf("TakeAlone: %d and %d", reply, value)
	}
	checkList(t, "met exactly", impl.Drained(s), []int64{9})
	s = changed(s, placeIs(0, 2, safePlace(2)), placeIs(0, 3, full(263, 9)))
	_, reply, value = impl.TakeAlone(s)
	if reply != impl.ReNone || value != 0 {
		t.Errorf("TakeAlone, one ticket further: %d and %d", reply, value)
	}
	checkList(t, "one ticket further", impl.Drained(s), nil)
}

// Round is 2: a ticket of mostNo-1 leaves no right place, so this one looks
// and skips, again and again.
func TestAloneOfOneWhoHasNoEnd(t *testing.T) {
	s := changed(filledStore(2, 1, 0), headIs(0, mostNo-1))
	then := changed(s, headIs(0, mostNo))
	h := impl.Hand{At: impl.AtSee, Ticket: mostNo - 1, Seen: safePlace(1), Spare: -1}
	checkAlone(t, "no end", s, toTake(), mostAlone, then, h, mostAlone)
	h.At = impl.AtSkip
	checkAlone(t, "no end, one fewer", s, toTake(), mostAlone-1, then, h, mostAlone-1)
	got, reply, value := impl.TakeAlone(s)
	checkTaken(t, "no end", got, reply, value, then, impl.ReNone, 0)
}

func checkPut(t *testing.T, name string, got impl.Store, reply int64, want impl.Store, wantReply int64) {
	t.Helper()
	checkStore(t, name, got, want)
	if reply != wantReply {
		t.Errorf("%s: Reply %d, not %d", name, reply, wantReply)
	}
}

func checkTaken(t *testing.T, name string, got impl.Store, reply, value int64, want impl.Store, wantReply, wantValue int64) {
	t.Helper()
	checkPut(t, name, got, reply, want, wantReply)
	if value != wantValue {
		t.Errorf("%s: %d, not %d", name, value, wantValue)
	}
}

func TestPutAlone(t *testing.T) {
	for _, c := range append(putAloneCases(), stuckCases()[:3]...) {
		got, reply := impl.PutAlone(c.store, 70)
		checkPut(t, c.name, got, reply, c.thenStore, c.thenHand.Reply)
	}
}

func TestPutAloneOfEveryValue(t *testing.T) {
	for round := int64(2); round <= 8; round++ {
		for _, value := range []int64{1, 2, 70, mostValue - 1, mostValue} {
			s := filledStore(round, 2, 1)
			got, reply := impl.PutAlone(s, value)
			checkPut(t, "onto a ring", got, reply, changed(s, tailIs(0, 2), placeIs(0, 1, full(1, value))), impl.ReDone)
			s = changed(filledStore(round, 2, 1), closedIs(0))
			got, reply = impl.PutAlone(s, value)
			want := filledStore(round, 2, 1, 1)
			want = changed(want, tailIs(0, 2), placeIs(1, 0, full(0, value)))
			checkPut(t, "onto a ring of its own", got, reply, want, impl.ReDone)
		}
	}
}

func noValues() []int64 { return append(outside(1, mostValue), 0) }

func storesInUse() map[string]impl.Store {
	return map[string]impl.Store{
		"new":          filledStore(2, 2, 0),
		"in use":       usedStore(),
		"several":      filledStore(3, 3, 2, 3, 1),
		"full":         changed(filledStore(2, 1, 2), closedIs(0)),
		"Last behind":  changed(filledStore(2, 3, 2, 1), lastIs(0)),
		"First behind": filledStore(2, 3, 0, 0, 1),
		"at its end":   changed(filledStore(2, 1, 1), headIs(0, mostNo), tailIs(0, mostNo)),
		"wide":         wideStore(),
	}
}

func TestPutAloneOfNoValue(t *testing.T) {
	for name, s := range storesInUse() {
		for _, value := range noValues() {
			got, reply := impl.PutAlone(s, value)
			checkPut(t, name, got, reply, s, impl.ReNone)
		}
	}
}

func TestAllAloneOfWhatIsNoStore(t *testing.T) {
	for name, s := range wrongStores() {
		for _, value := range append(noValues(), 1, 70, mostValue) {
			got, reply := impl.PutAlone(s, value)
			checkPut(t, "PutAlone, "+name, got, reply, impl.Store{}, impl.ReNone)
		}
		got, reply, value := impl.TakeAlone(s)
		checkTaken(t, "TakeAlone, "+name, got, reply, value, impl.Store{}, impl.ReNone, 0)
		checkList(t, "Drained, "+name, impl.Drained(s), nil)
	}
}

func TestTakeAlone(t *testing.T) {
	for _, c := range append(takeAloneCases(), stuckCases()[4]) {
		got, reply, value := impl.TakeAlone(c.store)
		checkTaken(t, c.name, got, reply, value, c.thenStore, c.thenHand.Reply, c.thenHand.Value)
	}
}

// lookedAt is a store of one ring at which that many came to take, and found
// nothing.
func lookedAt(round, most, times int64) impl.Store {
	s := linkedStore(round, most, -1)
	s.Rings[0].Head, s.Rings[0].Tail = times, times
	for ticket := range times {
		s.Rings[0].Places[ticket%round].No = ticket + round
	}
	return s
}

func TestTakeAloneOfAnEmptyStore(t *testing.T) {
	for round := int64(2); round <= 8; round++ {
		for _, most := range []int64{1, 2, mostRings} {
			s, _ := impl.NewStore(round, most)
			for n := range int64(20) {
				var reply, value int64
				s, reply, value = impl.TakeAlone(s)
				checkTaken(t, "empty", s, reply, value, lookedAt(round, most, n+1), impl.ReEmpty, 0)
			}
		}
	}
}

func TestTakeAloneOfTheEndsOfValues(t *testing.T) {
	for _, value := range []int64{1, 2, mostValue - 1, mostValue} {
		s := changed(filledStore(2, 1, 1), placeIs(0, 0, full(0, value)))
		got, reply, taken := impl.TakeAlone(s)
		checkTaken(t, "one", got, reply, taken, changed(s, headIs(0, 1), placeIs(0, 0, safePlace(2))), impl.ReGot, value)
	}
}

func oneTo(n int64) []int64 {
	var all []int64
	for value := range n {
		all = append(all, value+1)
	}
	return all
}

func TestDrained(t *testing.T) {
	cases := []struct {
		name  string
		store impl.Store
		want  []int64
	}{
		{"new", filledStore(2, 1, 0), nil},
		{"empty, several rings", filledStore(3, 4, 0, 0, 0, 0), nil},
		{"one", filledStore(2, 1, 1), oneTo(1)},
		{"one ring", filledStore(5, 1, 5), oneTo(5)},
		{"several rings", filledStore(3, 4, 3, 3, 2), oneTo(8)},
		{"an empty one between", filledStore(3, 4, 3, 0, 2), oneTo(5)},
		{"on the last ring alone", filledStore(3, 4, 0, 0, 1), oneTo(1)},
		{"Last behind", changed(filledStore(3, 4, 3, 1), lastIs(0)), oneTo(4)},
		{"off the chain", changed(filledStore(3, 4, 3, 1), firstIs(1)), []int64{4}},
		{"one Value on all", changed(filledStore(2, 1, 2), placeIs(0, 1, full(1, 1))), []int64{1, 1}},
		{"no ticket left behind the first", changed(filledStore(2, 1, 1), headIs(0, mostNo-4), tailIs(0, mostNo), placeIs(0, 0, full(mostNo-4, 9))), []int64{9}},
		{"no ticket to take", changed(filledStore(2, 1, 2), headIs(0, mostNo)), nil},
	}
	for _, c := range cases {
		checkStoreOk(t, c.name, c.store, true)
		checkList(t, c.name, impl.Drained(c.store), c.want)
	}
}

func TestDrainedOfAllThereMayBe(t *testing.T) {
	for round := int64(2); round <= 8; round++ {
		for _, most := range []int64{1, 2, 15, mostRings} {
			s := filledStore(round, most, slices.Repeat([]int64{round}, int(most))...)
			checkList(t, "all", impl.Drained(s), oneTo(round*most))
			checkList(t, "ValuesIn of all", impl.ValuesIn(s), oneTo(round*most))
		}
	}
}

// A queue is what one alone makes of a new store: rings of at most as many
// Values as Round, one behind the other. A ring that was once too small is
// Closed for good.
type queue struct {
	round, most int64
	rings       [][]int64
	closed      bool
}

func (q *queue) put(value int64) int64 {
	last := len(q.rings) - 1
	if !q.closed && int64(len(q.rings[last])) < q.round {
		q.rings[last] = append(q.rings[last], value)
		return impl.ReDone
	}
	if int64(len(q.rings)) == q.most {
		q.closed = true
		return impl.ReFull
	}
	q.rings = append(q.rings, []int64{value})
	return impl.ReDone
}

func (q *queue) take() (int64, int64) {
	for i, ring := range q.rings {
		if len(ring) > 0 {
			q.rings[i] = ring[1:]
			return impl.ReGot, ring[0]
		}
	}
	return impl.ReEmpty, 0
}

func (q *queue) check(t *testing.T, s impl.Store) {
	t.Helper()
	want := slices.Concat(q.rings...)
	checkList(t, "ValuesIn", impl.ValuesIn(s), want)
	checkList(t, "Drained", impl.Drained(s), want)
	if len(s.Rings) != len(q.rings) || s.Last != int64(len(q.rings))-1 {
		t.Errorf("%d rings, not %d: %+v", len(s.Rings), len(q.rings), s)
	}
}

// drawnCalls puts and takes alone, in an order that a lottery draws, and wants
// each answer to be that of the queue.
func (q *queue) drawnCalls(t *testing.T, l *lottery, s impl.Store, replies *[lastReply + 1]int) {
	t.Helper()
	for call := range int64(100) {
		was := copied(s)
		var then impl.Store
		var reply, value, wantReply, wantValue int64
		if l.draw(0, 8) < 3+4*(call/20%2) { // now rather more takes, now more puts
			then, reply = impl.PutAlone(s, 100+call)
			wantReply = q.put(100 + call)
		} else {
			then, reply, value = impl.TakeAlone(s)
			wantReply, wantValue = q.take()
		}
		checkStore(t, "the argument", s, was)
		if reply != wantReply || value != wantValue || !impl.StoreOk(then) {
			t.Fatalf("%+v, then %+v: %d and %d, not %d and %d", was, then, reply, value, wantReply, wantValue)
		}
		replies[reply]++
		s = then
		if call%10 == 9 {
			q.check(t, s)
		}
	}
}

func TestAloneOneThingIsAfterTheOther(t *testing.T) {
	var replies [lastReply + 1]int
	l := lottery(9)
	for round := int64(2); round <= 8; round++ {
		for _, most := range []int64{1, 2, 3, 5, mostRings} {
			s, _ := impl.NewStore(round, most)
			q := &queue{round: round, most: most, rings: make([][]int64, 1)}
			q.drawnCalls(t, &l, s, &replies)
		}
	}
	for reply := impl.ReDone; reply <= lastReply; reply++ {
		if replies[reply] == 0 {
			t.Errorf("nobody ever rested with %d", reply)
		}
	}
}

// Several have put and taken, in turns, and all of them rest: what is put alone
// then comes behind what is there.
func TestAloneBehindOthers(t *testing.T) {
	behind, full := 0, 0
	for seed := range lottery(200) {
		m := newMarket(seed*379+11, 4, 20)
		m.run(t, m.turn)
		want := impl.ValuesIn(m.store)
		checkList(t, "what is there", impl.Drained(m.store), want)
		for value := range m.draw(1, 12) {
			then, reply := impl.PutAlone(m.store, 500+value)
			switch reply {
			case impl.ReDone:
				want = append(want, 500+value)
				behind++
			case impl.ReFull:
				full++
			default:
				t.Fatalf("%+v, then %+v: Reply %d", m.store, then, reply)
			}
			m.store = then
		}
		checkList(t, "what is there, and what was put", impl.Drained(m.store), want)
		for _, next := range append(want, 0) {
			then, reply, value := impl.TakeAlone(m.store)
			if value != next || (reply == impl.ReGot) != (next > 0) {
				t.Fatalf("%+v, then %+v: %d and %d, not %d", m.store, then, reply, value, next)
			}
			m.store = then
		}
	}
	if behind == 0 || full == 0 {
		t.Errorf("%d were put, %d were not", behind, full)
	}
}

// An aloneCall is one of chapter 9 that answers a Store.
type aloneCall struct {
	name string
	do   func(s impl.Store) impl.Store
}

func aloneCalls() []aloneCall {
	all := []aloneCall{
		{"PutAlone", func(s impl.Store) impl.Store { s, _ = impl.PutAlone(s, 70); return s }},
		{"PutAlone of no value", func(s impl.Store) impl.Store { s, _ = impl.PutAlone(s, 0); return s }},
		{"TakeAlone", func(s impl.Store) impl.Store { s, _, _ = impl.TakeAlone(s); return s }},
	}
	for _, most := range []int64{0, 1, 5, mostAlone, mostAlone + 1} {
		for _, h := range []impl.Hand{impl.Resting(), toPut(70), toTake()} {
			all = append(all, aloneCall{"Alone", func(s impl.Store) impl.Store { s, _, _ = impl.Alone(s, h, most); return s }})
		}
	}
	return all
}

func TestAloneSharesNoMemoryWithTheArgument(t *testing.T) {
	for name, given := range storesInUse() {
		for _, call := range aloneCalls() {
			s := roomy(copied(given))
			kept := copied(withRoom(s))
			got := call.do(s)
			want := copied(got)
			checkStore(t, call.name+", the argument behind it, "+name, withRoom(s), kept)
			second := call.do(s)
			spoilStore(got)
			checkStore(t, call.name+", the argument behind a change of the answer, "+name, withRoom(s), kept)
			checkStore(t, call.name+", another answer behind a change of the first, "+name, second, want)
			spoilStore(s)
			checkStore(t, call.name+", the answer behind a change of the argument, "+name, second, want)
		}
	}
}

func TestAloneSharesNoMemoryWithinAnAnswer(t *testing.T) {
	for name, given := range storesInUse() {
		for _, call := range aloneCalls() {
			checkListsApart(t, call.name+", "+name, call.do(copied(given)))
		}
	}
	for _, call := range aloneCalls() {
		s := linkedStore(2, 3, -1, -1)
		s.Rings[1].Places = s.Rings[0].Places
		got := call.do(s)
		checkStore(t, "the argument", s, linkedStore(2, 3, -1, -1))
		checkListsApart(t, call.name+", rings that share their places", got)
	}
}

func TestAloneLeavesWhatIsNotRight(t *testing.T) {
	for name, s := range wrongStores() {
		s = roomy(s)
		kept := copied(withRoom(s))
		for _, call := range aloneCalls() {
			call.do(s)
		}
		impl.Drained(s)
		checkStore(t, "the argument, "+name, withRoom(s), kept)
	}
}

func TestDrainedLeavesItsArgument(t *testing.T) {
	for name, given := range storesInUse() {
		s := roomy(copied(given))
		kept := copied(withRoom(s))
		first := impl.Drained(s)
		want := slices.Clone(first)
		second := impl.Drained(s)
		second = second[:cap(second)]
		for i := range second {
			second[i] = -7
		}
		checkList(t, "the first answer, "+name, first, want)
		checkList(t, "a later answer, "+name, impl.Drained(s), want)
		checkStore(t, "the argument, "+name, withRoom(s), kept)
	}
}

func TestAloneAtTheEndsOfNumbers(t *testing.T) {
	for _, number := range []int64{math.MinInt64, math.MaxInt64} {
		h := impl.Hand{At: number, Value: number, Ring: number, Ticket: number, Tries: number, Spare: number, Reply: number}
		checkNotAlone(t, "all fields", usedStore(), h, number)
		s := impl.Store{Round: number, Most: number, First: number, Last: number}
		checkNotAlone(t, "a Store", s, impl.Resting(), 1)
		got, reply := impl.PutAlone(s, number)
		checkPut(t, "PutAlone", got, reply, impl.Store{}, impl.ReNone)
	}
}
