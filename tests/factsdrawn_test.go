package tests

import (
	"slices"
	"testing"

	"loop.example/g00610/impl"
)

// The facts are told here by the document's words, and by nothing of the
// program, of lists that are a story.

func isPut(e impl.Event) bool { return e.Put && e.Reply == impl.ReDone }

func isTake(e impl.Event) bool { return !e.Put && e.Reply == impl.ReGot }

// countOf is how many of those are of that Value.
func countOf(l []impl.Event, is func(e impl.Event) bool, value int64) int {
	count := 0
	for _, e := range l {
		if is(e) && e.Value == value {
			count++
		}
	}
	return count
}

func hasAValueTwice(l []impl.Event) bool {
	return slices.ContainsFunc(l, func(e impl.Event) bool {
		return countOf(l, isPut, e.Value) > 1 || countOf(l, isTake, e.Value) > 1
	})
}

// isGotBy asks for a take of that Value that by, which is all over, has not
// left behind.
func isGotBy(l []impl.Event, value int64, by impl.Event) bool {
	return slices.ContainsFunc(l, func(e impl.Event) bool {
		return isTake(e) && e.Value == value && by.End >= e.Begin
	})
}

func nothingTwiceByWords(l []impl.Event) bool {
	for _, take := range l {
		if !isTake(take) {
			continue
		}
		isItsPut := func(e impl.Event) bool { return isPut(e) && take.End >= e.Begin }
		if countOf(l, isTake, take.Value) > countOf(l, isPut, take.Value) || countOf(l, isItsPut, take.Value) == 0 {
			return false
		}
	}
	return true
}

// everyTwo is each two, of which the first one's End is less than the other
// one's Begin.
func everyTwo(l []impl.Event, with func(first, other impl.Event) bool) bool {
	for _, first := range l {
		for _, other := range l {
			if isPut(first) && first.End < other.Begin && !with(first, other) {
				return false
			}
		}
	}
	return true
}

func inOrderByWords(l []impl.Event) bool {
	return hasAValueTwice(l) || everyTwo(l, func(first, other impl.Event) bool {
		for _, take := range l {
			if isPut(other) && isTake(take) && take.Value == other.Value && !isGotBy(l, first.Value, take) {
				return false
			}
		}
		return true
	})
}

func emptyHeldByWords(l []impl.Event) bool {
	return hasAValueTwice(l) || everyTwo(l, func(first, other impl.Event) bool {
		return other.Reply != impl.ReEmpty || isGotBy(l, first.Value, other)
	})
}

func busyByWords(l []impl.Event) int64 {
	most := int64(0)
	for _, last := range l {
		for moment := last.Begin; moment <= last.End; moment++ {
			count := int64(0)
			for _, e := range l {
				if e.Begin <= moment && moment <= e.End {
					count++
				}
			}
			most = max(most, count)
		}
	}
	return most
}

func factsByWords(l []impl.Event) facts {
	return facts{nothingTwiceByWords(l), inOrderByWords(l), emptyHeldByWords(l), busyByWords(l)}
}

// A factTally counts of how many stories each fact holds, and of how many it
// does not, those left out in which a Value is twice; and how many are Lined.
type factTally struct {
	nothingTwice, inOrder, emptyHeld, lined [2]int
	twice                                   int
}

func (f *factTally) count(l []impl.Event, got facts) {
	if hasAValueTwice(l) {
		f.twice++
		return
	}
	countOne(&f.nothingTwice, got.nothingTwice)
	countOne(&f.inOrder, got.inOrder)
	countOne(&f.emptyHeld, got.emptyHeld)
	countOne(&f.lined, impl.Lined(l))
}

func countOne(counts *[2]int, is bool) {
	if is {
		counts[1]++
	} else {
		counts[0]++
	}
}

func (f *factTally) check(t *testing.T, least int) {
	t.Helper()
	for _, counts := range [][2]int{f.nothingTwice, f.inOrder, f.emptyHeld, f.lined, {f.twice, f.twice}} {
		if min(counts[0], counts[1]) < least {
			t.Errorf("too few of some: %+v", *f)
			return
		}
	}
}

// checkByWords asks what the facts are, and, of what is Lined, that each of
// them holds.
func checkByWords(t *testing.T, name string, l []impl.Event, all *factTally) {
	t.Helper()
	got, want := factsOf(l), factsByWords(l)
	if got != want {
		t.Errorf("%s, %+v: %v, not %v", name, l, got, want)
	}
	if impl.Lined(l) && got != allHeld(got.busy) {
		t.Errorf("%s, %+v: Lined, and %v", name, l, got)
	}
	all.count(l, got)
}

// giveOwnValues makes of a row one in which each Value is put once.
func giveOwnValues(row []impl.Event) {
	var line []int64
	for i, e := range row {
		switch e.Reply {
		case impl.ReDone:
			row[i].Value = int64(i + 1)
			line = append(line, row[i].Value)
		case impl.ReGot:
			row[i].Value, line = line[0], line[1:]
		}
	}
}

// drawnOnce is a row in which each Value is put once.
func (l *lottery) drawnOnce(n int64) []impl.Event {
	row := l.drawnRow(n)
	giveOwnValues(row)
	return row
}

// swapTwo has two Events, at the times that they have, tell what the other one
// told.
func (l *lottery) swapTwo(all []impl.Event) {
	n := int64(len(all))
	a, b := l.draw(0, n), l.draw(0, n)
	was := all[a]
	all[a] = timed(was.Begin, was.End, all[b])
	all[b] = timed(all[b].Begin, all[b].End, was)
}

// repeatOne has one of them, at its own time, tell what another one tells.
func (l *lottery) repeatOne(all []impl.Event) {
	n := int64(len(all))
	at := l.draw(0, n)
	all[at] = timed(all[at].Begin, all[at].End, all[l.draw(0, n)])
}

// strike leaves one out.
func (l *lottery) strike(all []impl.Event) []impl.Event {
	at := int(l.draw(0, int64(len(all))))
	return slices.Delete(slices.Clone(all), at, at+1)
}

// checkSpoilt asks a list as it is, and with one change after the other.
func (l *lottery) checkSpoilt(t *testing.T, list []impl.Event, all *factTally) {
	t.Helper()
	l.shuffle(list)
	checkByWords(t, "as it is", list, all)
	checkByWords(t, "one left out", l.strike(list), all)
	l.swapTwo(list)
	checkByWords(t, "two swapped", list, all)
	l.swapTwo(list)
	checkByWords(t, "two more swapped", list, all)
	l.repeatOne(list)
	checkByWords(t, "one repeated", list, all)
	l.spoilOne(list)
	checkByWords(t, "another one", list, all)
}

// Promise 14, and the facts by words: of right stories, and of ones that went
// wrong.
func TestFactsOfDrawnStories(t *testing.T) {
	var once, others factTally
	for seed := range lottery(200) {
		for n := int64(1); n <= mostEvents; n++ {
			row := seed.drawnOnce(n)
			seed.drawTimes(row)
			seed.checkSpoilt(t, row, &once)
			for _, l := range [][]impl.Event{seed.drawnRow(n), seed.drawnEvents(n)} {
				seed.drawTimes(l)
				seed.checkSpoilt(t, l, &others)
			}
		}
	}
	once.check(t, 100)
	others.check(t, 100)
}

// Where there is an order, the facts hold of more than MaxLined Events, too.
func TestFactsHoldWhereThereIsAnOrder(t *testing.T) {
	for seed := range lottery(300) {
		for n := range int64(mostEvents + 1) {
			for _, row := range [][]impl.Event{seed.drawnOnce(n), seed.drawnRow(n)} {
				seed.drawTimes(row)
				if !isInLine(row) {
					t.Fatalf("drawn as no order: %+v", row)
				}
				seed.shuffle(row)
				if got := factsOf(row); got != allHeld(busyByWords(row)) {
					t.Errorf("%+v: %v", row, got)
				}
			}
		}
	}
}

// everySpan gives the l all times of few moments.
func everySpan(l []impl.Event, at int, with func(l []impl.Event)) {
	if at == len(l) {
		with(l)
		return
	}
	for begin := range int64(4) {
		for end := begin; end < 4; end++ {
			l[at].Begin, l[at].End = begin, end
			everySpan(l, at+1, with)
		}
	}
}

func TestFactsOfFewAtAllTimes(t *testing.T) {
	var all factTally
	for _, l := range [][]impl.Event{
		{putDone(1), putDone(2), gotOne(1), gotOne(2)},
		{putDone(1), putDone(2), gotOne(2), gotNone()},
		{putDone(1), putDone(1), gotOne(1), gotOne(1)},
		{putDone(1), putFull(2), gotOne(2), gotNone()},
		{putDone(1), gotOne(1), gotNone(), gotNone()},
	} {
		everySpan(l, 0, func(l []impl.Event) { checkByWords(t, "at all times", l, &all) })
	}
	all.check(t, 100)
}

func TestFactsOfEveryThree(t *testing.T) {
	var all factTally
	few := fewEvents()
	for _, a := range few {
		for _, b := range few {
			checkByWords(t, "two", []impl.Event{a, b}, &all)
			for _, c := range few {
				checkByWords(t, "three", []impl.Event{a, b, c}, &all)
			}
		}
	}
	all.check(t, 100)
}

func TestFactsOfStoriesOfCrews(t *testing.T) {
	var all factTally
	everyShift(t, 8, func(s *shift) {
		s.run(t, int(s.draw(0, 80)), func(t *testing.T) {})
		l := impl.StoryOf(impl.Finished(s.crew))
		checkByWords(t, "of a crew", l, &all)
		if len(l) > 0 {
			s.checkSpoilt(t, l, &all)
		}
	})
	all.check(t, 20)
}
