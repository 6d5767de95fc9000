package tests

import (
	"slices"
	"testing"

	"loop.example/g00610/impl"
)

func checkBusy(t *testing.T, name string, want int64, l ...impl.Event) {
	t.Helper()
	checkFact(t, "Busy, "+name, impl.Busy, l, want)
}

func TestBusyOneBehindTheOther(t *testing.T) {
	row := inARow(putDone(1), gotOne(1), gotNone(), putFull(2), putDone(3), gotOne(7))
	for n := range row {
		checkBusy(t, "a row", 1, row[:n+1]...)
	}
	checkBusy(t, "far apart", 1, during(0, 0), during(1000, 1000), during(mostClock, mostClock))
	checkBusy(t, "moments", 1, during(0, 0), during(1, 1), during(2, 2), during(3, 3))
}

// From Begin to End both of them are told to be under way, the two ends as well.
func TestBusyWhereTheyTouch(t *testing.T) {
	checkBusy(t, "touch", 2, during(1, 3), during(3, 5))
	checkBusy(t, "one behind", 1, during(1, 3), during(4, 5))
	checkBusy(t, "three touch in a row", 2, during(1, 3), during(3, 5), during(5, 7))
	checkBusy(t, "two end where two begin", 4, during(1, 3), during(2, 3), during(3, 5), during(3, 9))
	checkBusy(t, "a moment at the end", 2, during(1, 3), during(3, 3))
	checkBusy(t, "a moment at the beginning", 2, during(1, 3), during(1, 1))
	checkBusy(t, "a moment behind", 1, during(1, 3), during(4, 4))
	checkBusy(t, "a moment between", 3, during(1, 3), during(3, 3), during(3, 5))
	checkBusy(t, "at 0", 2, during(0, 0), during(0, mostClock))
	checkBusy(t, "at the Clock's end", 2, during(mostClock, mostClock), during(0, mostClock))
	checkBusy(t, "at 0 and at the end", 2, during(0, 0), during(mostClock, mostClock), during(0, mostClock))
	checkBusy(t, "all but the end", 1, during(mostClock, mostClock), during(0, mostClock-1))
}

func TestBusyOfTwoByTimes(t *testing.T) {
	for begin := range int64(12) {
		for end := begin; end < 12; end++ {
			want := int64(1)
			if begin <= 7 && end >= 5 {
				want = 2
			}
			checkBusy(t, "two", want, during(5, 7), during(begin, end))
		}
	}
}

// At most is not all: those that are never all under way at one time are not
// counted together, though each of them meets another one.
func TestBusyCountsAtOneTime(t *testing.T) {
	checkBusy(t, "one meets two", 2, during(1, 9), during(2, 3), during(5, 6))
	checkBusy(t, "one meets two, that touch", 3, during(1, 9), during(2, 5), during(5, 6))
	checkBusy(t, "a chain", 2, during(1, 4), during(3, 7), during(6, 10), during(9, 12))
	checkBusy(t, "stairs", 3, during(1, 5), during(3, 7), during(5, 9), during(8, 11))
	checkBusy(t, "the most at first", 3, during(1, 2), during(1, 3), during(2, 2), during(5, 8), during(8, 9))
	checkBusy(t, "the most at last", 3, during(1, 2), during(2, 3), during(7, 20), during(8, 11), during(11, 12))
	checkBusy(t, "the most midst", 3, during(0, 1), during(5, 9), during(6, 8), during(7, 7), during(30, 31), during(31, 33))
}

func TestBusyOfSixteen(t *testing.T) {
	for n := range int64(mostEvents + 1) {
		checkBusy(t, "at one time", n, atOnce(slices.Repeat([]impl.Event{gotNone()}, int(n))...)...)
		var nested, stairs, row []impl.Event
		for i := range n {
			nested = append(nested, during(i, mostClock-i))
			stairs = append(stairs, during(i, i+4))
			row = append(row, during(2*i, 2*i+2))
		}
		checkBusy(t, "one around the other", n, nested...)
		checkBusy(t, "stairs", min(n, 5), stairs...)
		checkBusy(t, "touching in a row", min(n, 2), row...)
	}
	at0 := slices.Repeat([]impl.Event{during(0, 0)}, mostEvents)
	checkBusy(t, "at 0", mostEvents, at0...)
	checkBusy(t, "at the Clock's end", mostEvents, slices.Repeat([]impl.Event{during(mostClock, mostClock)}, mostEvents)...)
	checkBusy(t, "half at 0, half at the end", mostEvents/2,
		append(at0[:mostEvents/2], slices.Repeat([]impl.Event{during(mostClock, mostClock)}, mostEvents/2)...)...)
	checkBusy(t, "17", -1, slices.Repeat([]impl.Event{during(0, 0)}, mostEvents+1)...)
}

// Only the times are asked, whatever else they tell.
func TestBusyWhateverTheyTell(t *testing.T) {
	for _, a := range rightEvents() {
		for _, b := range rightEvents() {
			checkBusy(t, "touch", 2, timed(2, 4, a), timed(4, 4, b))
			checkBusy(t, "one behind", 1, timed(2, 3, a), timed(4, 4, b))
		}
	}
}

func TestBusyOfNoStory(t *testing.T) {
	for _, e := range wrongEvents() {
		checkBusy(t, "one wrong", -1, e)
		checkBusy(t, "one wrong of three", -1, during(0, mostClock), e, during(0, 0))
	}
}
