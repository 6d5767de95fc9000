package tests

import (
	"math"
	"slices"
	"testing"

	"loop.example/g00610/impl"
)

var steppingOn stepper = impl.Stepped

// asChaptersTell is Stepped by the document's words, which are told by the
// number of At alone.
func asChaptersTell(s impl.Store, h impl.Hand) (impl.Store, impl.Hand, bool) {
	if isForPutting(h.At) {
		return impl.PutStep(s, h)
	}
	return impl.TakeStep(s, h)
}

func everyStepCase() []stepCase { return slices.Concat(everyPutCase(), everyTakeCase()) }

// refusedStepCases are those of chapters 6 and 7, but for those that do what
// the other chapter tells.
func refusedStepCases() []stepCase {
	does := func(is func(at int64) bool) func(c stepCase) bool {
		return func(c stepCase) bool { return is(c.at) }
	}
	return slices.Concat(
		slices.DeleteFunc(refusedPutCases(), does(isForTaking)),
		slices.DeleteFunc(refusedTakeCases(), does(isForPutting)))
}

// wideStore has as many rings as there may be, so that every right Hand fits.
func wideStore() impl.Store { return linkedStore(2, mostRings, looseRings(mostRings)...) }

func TestStepped(t *testing.T) {
	steppingOn.checkCases(t, everyStepCase(), true)
	var seen [lastAt + 1]bool
	for _, c := range everyStepCase() {
		seen[c.at] = true
	}
	for at := firstForPutting; at <= lastAt; at++ {
		if !seen[at] {
			t.Errorf("no case is at %d", at)
		}
	}
}

func TestSteppedRefused(t *testing.T) { steppingOn.checkCases(t, refusedStepCases(), false) }

func TestSteppedIsAsChaptersTell(t *testing.T) {
	for _, c := range append(everyStepCase(), refusedStepCases()...) {
		s, h := c.given()
		for _, spare := range []int64{-1, 0, h.Spare, 4, 15} {
			for _, again := range []bool{false, true} {
				h.Spare, h.Again = spare, again
				then, hand, is := asChaptersTell(s, h)
				steppingOn.check(t, c.name, s, h, then, hand, is)
			}
		}
	}
}

func TestSteppedOfOneAtRest(t *testing.T) {
	for _, s := range []impl.Store{usedStore(), linkedStore(2, 1, -1), wideStore()} {
		for _, h := range everyAtRest() {
			steppingOn.check(t, "at rest", s, h, s, h, false)
		}
	}
}

func TestSteppedOfWhatIsNoStore(t *testing.T) { steppingOn.checkNoStores(t) }

func TestSteppedOfWhatIsNoHand(t *testing.T) { steppingOn.checkNoHands(t) }

func TestSteppedAtTheEndsOfNumbers(t *testing.T) { steppingOn.checkEndsOfNumbers(t) }

func TestSteppedSharesNoMemoryWithTheArgument(t *testing.T) {
	steppingOn.checkApartFromTheArgument(t, append(everyStepCase(), refusedStepCases()...))
}

func TestSteppedSharesNoMemoryWithinAnAnswer(t *testing.T) {
	steppingOn.checkApartWithinAnAnswer(t, append(everyStepCase(), refusedStepCases()...))
}

func TestSteppedLeavesWhatIsNotRight(t *testing.T) { steppingOn.checkLeavesWhatIsNotRight(t) }

func checkIsResting(t *testing.T, h impl.Hand, want bool) {
	t.Helper()
	if got := impl.IsResting(h); got != want {
		t.Errorf("IsResting(%+v) = %v", h, got)
	}
}

func TestIsResting(t *testing.T) {
	for _, h := range everyAtRest() {
		checkIsResting(t, h, true)
		puts, _ := impl.ToPut(h, 7)
		takes, _ := impl.ToTake(h)
		checkIsResting(t, puts, false)
		checkIsResting(t, takes, false)
	}
	for _, h := range everyHand()[firstForPutting:] {
		for _, spare := range everySpare() {
			for reply := range int64(lastReply + 1) {
				h.Spare, h.Reply = spare, reply
				checkIsResting(t, h, false)
			}
		}
	}
}

func TestIsRestingOfWhatIsNoHand(t *testing.T) {
	for _, h := range noHands() {
		checkIsResting(t, h, false)
	}
	for _, number := range []int64{math.MinInt64, math.MaxInt64} {
		checkIsResting(t, impl.Hand{Value: number, Ring: number, Ticket: number, Tries: number, Spare: number, Reply: number}, false)
	}
}

func checkFits(t *testing.T, name string, s impl.Store, h impl.Hand, want bool) {
	t.Helper()
	if got := impl.Fits(s, h); got != want {
		t.Errorf("%s: Fits(%+v, %+v) = %v", name, s, h, got)
	}
}

func TestFitsAtRest(t *testing.T) {
	for _, s := range []impl.Store{usedStore(), linkedStore(2, 1, -1), wideStore()} {
		for _, h := range everyAtRest() {
			for ring := range int64(mostRings) {
				h.Ring = ring
				checkFits(t, "at rest", s, h, true)
			}
		}
	}
}

// There may be more rings than there are, and none of those that may be fits.
func TestFitsUnderWay(t *testing.T) {
	for n := int64(1); n <= mostRings; n++ {
		s := linkedStore(2, mostRings, looseRings(n)...)
		is := func(ring int64) bool { return ring >= 0 && ring < n }
		for _, h := range everyHand()[firstForPutting:] {
			for h.Ring = -1; h.Ring <= mostRings; h.Ring++ {
				for h.Spare = -2; h.Spare <= mostRings; h.Spare++ {
					checkFits(t, "under way", s, h, is(h.Ring) && (h.Spare == -1 || is(h.Spare)))
				}
			}
		}
	}
}

// Also a ring that nobody comes to from First is one of the Store.
func TestFitsOfAStoreInUse(t *testing.T) {
	for at := int64(firstForPutting); at <= lastAt; at++ {
		h := busyHand(at)
		for _, ring := range []int64{0, 1, 2, 3} {
			h.Ring, h.Spare = ring, -1
			checkFits(t, "no Spare", usedStore(), h, true)
			for spare := range int64(mostRings) {
				h.Spare = spare
				checkFits(t, "a Spare", usedStore(), h, spare < 4)
			}
		}
		for _, ring := range []int64{4, 5, 15} {
			h.Ring, h.Spare = ring, -1
			checkFits(t, "no such ring", usedStore(), h, false)
			h.Spare = 3
			checkFits(t, "no such ring, a Spare", usedStore(), h, false)
		}
	}
}

func TestFitsOfWhatIsNotRight(t *testing.T) {
	for name, s := range wrongStores() {
		for _, h := range everyAtRest() {
			checkFits(t, name+", at rest", s, h, false)
		}
		for at := range int64(lastAt + 1) {
			for ring := range int64(3) {
				h := busyHand(at)
				h.Ring, h.Spare = ring, -1
				checkFits(t, name, s, h, false)
			}
		}
		for _, h := range noHands() {
			checkFits(t, name+", no hand", s, h, false)
		}
	}
	for _, h := range everyHand() {
		checkFits(t, "right", wideStore(), h, true)
	}
	for _, h := range noHands() {
		checkFits(t, "no hand", wideStore(), h, false)
	}
	for _, number := range []int64{math.MinInt64, math.MaxInt64} {
		for at := range int64(lastAt + 1) {
			h := impl.Hand{At: at, Value: 7, Ring: number, Spare: -1}
			checkFits(t, "no ring at all", wideStore(), h, false)
			h.Ring, h.Spare = 0, number
			checkFits(t, "no Spare at all", wideStore(), h, false)
		}
	}
}

func TestFitsLeavesItsArgument(t *testing.T) {
	all := wrongStores()
	all["right"] = usedStore()
	for name, s := range all {
		s = roomy(s)
		kept := copied(withRoom(s))
		for _, h := range append(everyHand(), noHands()...) {
			impl.Fits(s, h)
		}
		checkStore(t, "the argument, "+name, withRoom(s), kept)
	}
}

// Whoever was at a Store fits it then as well: no step takes a ring away.
func checkAllFit(t *testing.T, name string, s impl.Store, hands []impl.Hand) {
	t.Helper()
	for _, h := range hands {
		if !impl.Fits(s, h) {
			t.Fatalf("%s: %+v, %+v", name, s, h)
		}
	}
}

func TestWhoFitsAndIsSteppedFitsThen(t *testing.T) {
	fitted := 0
	for _, c := range append(everyStepCase(), refusedStepCases()...) {
		s, h := c.given()
		if !impl.Fits(s, h) {
			continue
		}
		fitted++
		then, hand, _ := impl.Stepped(s, h)
		checkAllFit(t, c.name, then, []impl.Hand{h, hand})
	}
	if fitted < len(everyStepCase())/2 {
		t.Errorf("%d alone fit", fitted)
	}
}

// stepOne is a turn of one that fits, and each of them fits then.
func (m *market) stepOne(t *testing.T, who int) {
	t.Helper()
	if impl.IsResting(m.hands[who]) {
		m.begin(who)
		checkAllFit(t, "begun", m.store, m.hands)
		return
	}
	was, h := copied(m.store), m.hands[who]
	s, then, is := asChaptersTell(was, h)
	steppingOn.check(t, "of several", m.store, h, s, then, is)
	if !is || t.Failed() {
		t.Fatalf("%+v, %+v: %+v, %+v, %v", was, h, s, then, is)
	}
	m.store, m.hands[who], _ = impl.Stepped(m.store, h)
	m.steps[h.At]++
	checkAllFit(t, "stepped", m.store, m.hands)
}

func TestSeveralWhoFitAndAreSteppedFitThen(t *testing.T) {
	var all tally
	for seed := range lottery(200) {
		m := newMarket(seed*613+5, 5, 30)
		m.run(t, m.stepOne)
		all.add(m.tally)
		for _, h := range m.hands {
			checkIsResting(t, h, true)
		}
	}
	all.checkSteps(t, firstForPutting, lastAt)
}
