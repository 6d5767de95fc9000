package tests

import (
	"slices"
	"testing"

	"loop.example/g00610/impl"
)

const (
	mostLined   = 8
	mostOrdered = 6
)

func checkLined(t *testing.T, name string, l []impl.Event, want bool, wantOrders int64) {
	t.Helper()
	if got, orders := impl.Lined(l), impl.Orders(l); got != want || orders != wantOrders {
		t.Errorf("%s, %+v: %v, %d, not %v, %d", name, shortStory(l), got, orders, want, wantOrders)
	}
}

func shortStory(l []impl.Event) []impl.Event { return l[:min(len(l), mostEvents+1)] }

// checkOrders is for as many Events as Orders counts.
func checkOrders(t *testing.T, name string, l []impl.Event, want int64) {
	t.Helper()
	checkLined(t, name, l, want > 0, want)
}

func timed(begin, end int64, e impl.Event) impl.Event {
	e.Begin, e.End = begin, end
	return e
}

// inARow has each one Ahead of the next, just so.
func inARow(l ...impl.Event) []impl.Event {
	l = slices.Clone(l)
	for n := range l {
		l[n].Who = int64(n % mostHands)
		l[n].Begin, l[n].End = int64(2*n), int64(2*n+1)
	}
	return l
}

func atOnce(l ...impl.Event) []impl.Event {
	l = slices.Clone(l)
	for n := range l {
		l[n].Who = int64(n % mostHands)
		l[n].Begin, l[n].End = 3, 5
	}
	return l
}

func putDone(value int64) impl.Event { return putOf(value, impl.ReDone) }
func putFull(value int64) impl.Event { return putOf(value, impl.ReFull) }
func gotOne(value int64) impl.Event  { return takeOf(value, impl.ReGot) }
func gotNone() impl.Event            { return takeOf(0, impl.ReEmpty) }

func storyWith(l []impl.Event, n int, e impl.Event) []impl.Event {
	return slices.Insert(slices.Clone(l), n, e)
}

func TestLinedLimits(t *testing.T) {
	if impl.MaxLined != mostLined {
		t.Errorf("MaxLined %d", impl.MaxLined)
	}
}

func TestLinedOfNoEvents(t *testing.T) {
	checkOrders(t, "nil", nil, 1)
	checkOrders(t, "no Events", []impl.Event{}, 1)
	checkOrders(t, "no Events, spare room", rightEvents()[:0], 1)
	checkOrders(t, "no Events, wrong ones behind it", wrongEvents()[:0], 1)
}

func TestLinedOfOneEvent(t *testing.T) {
	for _, e := range rightEvents() {
		want := int64(1)
		if e.Reply == impl.ReGot {
			want = 0
		}
		checkOrders(t, "one", []impl.Event{e}, want)
	}
	for _, value := range rightValues() {
		checkOrders(t, "put", []impl.Event{putDone(value)}, 1)
		checkOrders(t, "no room", []impl.Event{putFull(value)}, 1)
		checkOrders(t, "got", []impl.Event{gotOne(value)}, 0)
	}
	checkOrders(t, "none", []impl.Event{gotNone()}, 1)
}

func rowsThatAreOne() [][]impl.Event {
	return [][]impl.Event{
		{putDone(1), gotOne(1)},
		{putDone(1), putDone(2), gotOne(1), gotOne(2)},
		{gotNone(), putDone(mostValue), gotOne(mostValue), gotNone(), gotNone()},
		{putDone(7), putDone(7), gotOne(7), gotOne(7), gotNone()},
		{gotNone(), putDone(1), putFull(2), gotOne(1), gotNone(), putFull(1)},
		{putDone(1), gotOne(1), putDone(1), gotOne(1), putDone(1), gotOne(1)},
		{putDone(3), putDone(2), putDone(1), gotOne(3), putDone(3), gotOne(2)},
		{putDone(3), putDone(2), putDone(1), putFull(3), putFull(3), putFull(4)},
	}
}

func rowsThatAreNone() [][]impl.Event {
	return [][]impl.Event{
		{gotOne(1), putDone(1)},
		{putDone(1), gotNone()},
		{putDone(1), gotNone(), gotOne(1)},
		{putDone(1), gotOne(2)},
		{putDone(1), gotOne(1), gotOne(1)},
		{putFull(1), gotOne(1)},
		{putDone(1), putDone(2), gotOne(2), gotOne(1)},
		{putDone(1), putDone(2), gotOne(2)},
		{putDone(1), putDone(2), gotOne(1), gotNone(), gotOne(2)},
		{putDone(3), putDone(2), putDone(1), gotOne(3), gotOne(1), gotOne(2)},
		{gotNone(), putDone(4), putFull(5), gotOne(4), gotNone(), gotOne(5)},
	}
}

// However the list has them, their times tell their order.
func TestLinedOneAfterTheOther(t *testing.T) {
	for _, row := range rowsThatAreOne() {
		everyOrder(nil, inARow(row...), func(l []impl.Event) { checkOrders(t, "one order", l, 1) })
	}
	for _, row := range rowsThatAreNone() {
		everyOrder(nil, inARow(row...), func(l []impl.Event) { checkOrders(t, "no order", l, 0) })
	}
}

func factorial(n int) int64 {
	all := int64(1)
	for factor := range n {
		all *= int64(factor + 1)
	}
	return all
}

func TestOrdersAtOneTime(t *testing.T) {
	for n := range mostOrdered + 1 {
		for name, e := range map[string]impl.Event{"done": putDone(1), "full": putFull(1), "none": gotNone()} {
			checkOrders(t, name, atOnce(slices.Repeat([]impl.Event{e}, n)...), factorial(n))
		}
	}
	checkOrders(t, "a put and its take", atOnce(putDone(1), gotOne(1)), 1)
	checkOrders(t, "a take and its put", atOnce(gotOne(1), putDone(1)), 1)
	checkOrders(t, "ahead of the put or behind the take", atOnce(putDone(1), gotOne(1), gotNone()), 2)
	checkOrders(t, "alike", atOnce(putDone(1), gotOne(1), putDone(1)), 4)
	checkOrders(t, "another one's", atOnce(putDone(1), gotOne(2), putFull(2)), 0)
	checkOrders(t, "two and two", atOnce(gotOne(1), gotOne(2), putDone(1), putDone(2)), 4)
	checkOrders(t, "the one that was got was put first", atOnce(putDone(1), putDone(2), putDone(3), gotOne(2)), 6)
}

func TestOrdersOfOneThatEndsWhereTheOtherBegins(t *testing.T) {
	for _, e := range []impl.Event{putDone(1), putFull(1), gotNone()} {
		checkOrders(t, "within", []impl.Event{timed(1, 9, e), timed(3, 5, e)}, 2)
		checkOrders(t, "at the same", []impl.Event{timed(1, 3, e), timed(3, 5, e)}, 2)
		checkOrders(t, "at the same, the later one first", []impl.Event{timed(3, 5, e), timed(1, 3, e)}, 2)
		checkOrders(t, "one before", []impl.Event{timed(1, 2, e), timed(3, 5, e)}, 1)
		checkOrders(t, "one before, the later one first", []impl.Event{timed(3, 5, e), timed(1, 2, e)}, 1)
		checkOrders(t, "at one moment", []impl.Event{timed(4, 4, e), timed(4, 4, e)}, 2)
		checkOrders(t, "the last two moments", []impl.Event{timed(mostClock, mostClock, e), timed(0, mostClock-1, e)}, 1)
		checkOrders(t, "the last moment", []impl.Event{timed(mostClock, mostClock, e), timed(0, mostClock, e)}, 2)
	}
	checkOrders(t, "the take ends where its put begins", []impl.Event{timed(1, 3, gotOne(1)), timed(3, 5, putDone(1))}, 1)
	checkOrders(t, "the take ends one before", []impl.Event{timed(1, 2, gotOne(1)), timed(3, 5, putDone(1))}, 0)
	checkOrders(t, "none begins where the put ends", []impl.Event{timed(1, 3, putDone(1)), timed(3, 5, gotNone())}, 1)
	checkOrders(t, "none begins one behind", []impl.Event{timed(1, 3, putDone(1)), timed(4, 5, gotNone())}, 0)
}

// Of what is Ahead no one may come later, the next one or not.
func TestOrdersWithOthersBetween(t *testing.T) {
	for _, e := range []impl.Event{putDone(1), putFull(1), gotNone()} {
		first, last, all := timed(1, 2, e), timed(3, 4, e), timed(0, 9, e)
		everyOrder(nil, []impl.Event{first, all, last}, func(l []impl.Event) {
			checkOrders(t, "one all the time", l, 3)
		})
		checkOrders(t, "three all the time", []impl.Event{all, last, all, first, all}, factorial(5)/2)
		checkOrders(t, "two and two", []impl.Event{last, first, last, first}, 4)
		checkOrders(t, "a row, and one all the time", []impl.Event{all, timed(5, 6, e), last, first}, 4)
	}
	puts := []impl.Event{timed(1, 2, putDone(1)), timed(3, 4, putDone(2))}
	checkOrders(t, "the one that was put first", append(puts, timed(0, 9, gotOne(1))), 2)
	checkOrders(t, "the one that was put behind it", append(puts, timed(0, 9, gotOne(2))), 0)
}

// The puts are at one time, and given so that each choice but the last one
// fails; only behind all of them does the failure show.
func TestLinedBehindFailures(t *testing.T) {
	var l []impl.Event
	for value := range int64(4) {
		l = append(l, timed(1, 5, putDone(value+1)))
	}
	for n := range int64(4) {
		l = append(l, timed(6+2*n, 7+2*n, gotOne(4-n)))
	}
	checkLined(t, "the last choice of 24", l, true, -1)
	checkOrders(t, "the last choice of 6", l[1:7], 1)
	everyOrder(nil, l[1:7], func(l []impl.Event) { checkOrders(t, "the one choice of 6", l, 1) })
	l[7].Value = 2
	checkLined(t, "none of 24", l, false, -1)
}

func TestLinedWhereTheFirstChoiceFails(t *testing.T) {
	checkOrders(t, "none, behind the put", atOnce(putDone(1), gotNone()), 1)
	checkOrders(t, "the other put", []impl.Event{timed(1, 5, putDone(1)), timed(1, 5, putDone(2)), timed(6, 7, gotOne(2))}, 1)
	checkOrders(t, "takes first", []impl.Event{timed(1, 9, gotOne(2)), timed(1, 9, gotOne(1)), timed(1, 2, putDone(1)), timed(3, 4, putDone(2))}, 2)
	l := []impl.Event{timed(1, 20, putDone(1)), timed(1, 2, putDone(2)), timed(3, 4, gotOne(2)), timed(5, 6, gotNone()), timed(21, 22, gotOne(1)), timed(23, 24, gotNone())}
	checkOrders(t, "begun first, put last", l, 1)
}

func TestOrdersOfEventsThatAreAlike(t *testing.T) {
	for _, e := range append(rightEvents(), putDone(5), putFull(5), gotNone()) {
		if e.Reply == impl.ReGot {
			continue
		}
		for n := range mostOrdered + 1 {
			checkOrders(t, "alike", slices.Repeat([]impl.Event{e}, n), factorial(n))
		}
	}
	put, take := timed(1, 2, putDone(4)), timed(3, 4, gotOne(4))
	checkOrders(t, "two puts, two takes", []impl.Event{put, take, put, take}, 4)
	checkOrders(t, "two puts, one take", []impl.Event{put, take, put}, 2)
	checkOrders(t, "one put, two takes", []impl.Event{take, put, take}, 0)
	checkOrders(t, "three puts, three takes", []impl.Event{take, put, put, take, put, take}, 36)
}

func TestLinedOfSixToNine(t *testing.T) {
	row := []impl.Event{gotNone(), putDone(1), putDone(2), putFull(3), gotOne(1), gotOne(2), gotNone(), putDone(3), gotOne(3), putFull(1)}
	for n := mostOrdered; n <= len(row); n++ {
		count := int64(-1)
		if n == mostOrdered {
			count = 1
		}
		l := inARow(row[:n]...)
		checkLined(t, "a row", l, n <= mostLined, count)
		slices.Reverse(l)
		checkLined(t, "a row, backwards", l, n <= mostLined, count)
		l[0].Put, l[0].Value, l[0].Reply = false, 9, impl.ReGot
		checkLined(t, "what was never put", l, false, min(count, 0))
	}
}

func TestLinedCountsEvents(t *testing.T) {
	counts := []int64{1, 1, 2, 6, 24, 120, 720}
	for n := range 40 {
		count := int64(-1)
		if n < len(counts) {
			count = counts[n]
		}
		for _, e := range []impl.Event{putDone(1), putFull(2), gotNone()} {
			checkLined(t, "so many", atOnce(slices.Repeat([]impl.Event{e}, n)...), n <= mostLined, count)
		}
	}
	for _, e := range append(wrongEvents(), rightEvents()...) {
		checkLined(t, "very many", slices.Repeat([]impl.Event{e}, 10000), false, -1)
	}
}

// All failures are gone through, of all puts in each order.
func TestLinedOfEightNotFound(t *testing.T) {
	for n := range mostLined {
		var l []impl.Event
		for value := range int64(mostLined - 1) {
			l = append(l, putDone(value+1))
		}
		checkLined(t, "never put", atOnce(storyWith(l, n, gotOne(mostLined))...), false, -1)
		checkLined(t, "put", atOnce(storyWith(l, n, gotOne(mostLined-1))...), true, -1)
		checkLined(t, "another one, of seven", atOnce(storyWith(l[1:], n%7, gotOne(1))...), false, -1)
	}
}

// But for the wrong one, each order of them would do.
func TestLinedOfNoStory(t *testing.T) {
	for n := range mostEvents + 2 {
		for place := range n + 1 {
			l := slices.Repeat([]impl.Event{timed(0, mostClock, putFull(6))}, n)
			for _, e := range wrongEvents() {
				checkLined(t, "one wrong", storyWith(l, place, e), false, -1)
			}
		}
	}
	checkLined(t, "all wrong", wrongEvents(), false, -1)
	checkLined(t, "six that are wrong", wrongEvents()[:mostOrdered], false, -1)
	checkLined(t, "no Event", []impl.Event{{}}, false, -1)
}

func slotsOf(row []impl.Event, e impl.Event, with func(ahead, l []impl.Event)) {
	for n := range len(row) + 1 {
		with(row[:n], inARow(storyWith(row, n, e)...))
	}
}

func shortRows() [][]impl.Event {
	return [][]impl.Event{
		{putDone(1), gotOne(1), putDone(2), gotOne(2)},
		{putDone(1), putDone(2), gotOne(1), gotOne(2), gotNone()},
		{gotNone(), gotNone(), putDone(2)},
		{gotNone(), putDone(3), putDone(4), gotOne(3), putDone(5)},
		{putFull(1), putDone(1), putFull(1), gotOne(1), putFull(1)},
	}
}

func TestLinedNoRoomAnywhere(t *testing.T) {
	for _, row := range shortRows() {
		for _, value := range []int64{1, 2, 9, mostValue} {
			slotsOf(row, putFull(value), func(_, l []impl.Event) { checkOrders(t, "full", l, 1) })
		}
	}
}

func TestLinedEmptyWhereTheLineIs(t *testing.T) {
	for _, row := range shortRows() {
		slotsOf(row, gotNone(), func(ahead, l []impl.Event) {
			puts, gots := inTwo(ahead)
			if len(puts) == len(gots) {
				checkOrders(t, "empty", l, 1)
			} else {
				checkOrders(t, "not empty", l, 0)
			}
		})
	}
}

func TestLinedGotInTurn(t *testing.T) {
	for _, row := range shortRows() {
		for _, value := range []int64{1, 2, 9, mostValue} {
			slotsOf(row, gotOne(value), func(_, l []impl.Event) { checkOrders(t, "got once more", l, bySlowCount(l)) })
		}
		slotsOf(row, gotOne(9), func(_, l []impl.Event) { checkOrders(t, "never put", l, 0) })
	}
	for _, l := range [][]impl.Event{
		{putDone(1), gotOne(2), putDone(2)},
		{putDone(1), putDone(2), gotOne(2), gotOne(1)},
		{putDone(1), putDone(2), putDone(3), gotOne(1), gotOne(3)},
		{putDone(1), putDone(2), putDone(1), gotOne(1), gotOne(1)},
		{putDone(1), gotOne(1), putDone(2), putDone(3), gotOne(3)},
	} {
		checkOrders(t, "out of turn", inARow(l...), 0)
	}
	checkOrders(t, "never put, all at one time", atOnce(putDone(1), gotOne(1), gotOne(2), putDone(3), putFull(2)), 0)
}

func TestLinedOfPutsThatLastToTheEnd(t *testing.T) {
	for _, row := range shortRows() {
		checkOrders(t, "one more at the end", inARow(append(slices.Clone(row), putDone(8))...), 1)
	}
	checkOrders(t, "all of them", inARow(putDone(1), putDone(2), putDone(3), putDone(1), putDone(1), putDone(2)), 1)
	checkOrders(t, "all but one", inARow(putDone(1), putDone(2), putDone(3), putDone(1), gotOne(1), putDone(2)), 1)
}

// Who it was is nothing to the order: also where one hand had two at one time.
func TestLinedWhoeverItWas(t *testing.T) {
	for who := range int64(mostHands) {
		l := atOnce(putDone(1), gotOne(1), gotNone(), putFull(2))
		for n := range l {
			l[n].Who = who
		}
		checkOrders(t, "one hand", l, 8)
	}
}
