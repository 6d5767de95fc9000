package tests

import (
	"slices"
	"testing"

	"loop.example/g00610/impl"
)

const mostStepsAlone = 400

// A shift is a new crew, and turns of it, both of which a lottery draws.
type shift struct {
	lottery
	tally
	begun      impl.Crew
	crew       impl.Crew
	mostInARow int64
	list       []int64
	nothing    int
}

// drawnJobs have each Value once.
func (l *lottery) drawnJobs() [][]int64 {
	jobs := make([][]int64, l.draw(1, mostHands+1))
	for who := range jobs {
		for n := range min(l.draw(1, 2*mostJobs), mostJobs) {
			job := int64(0)
			if l.draw(0, 2) == 0 {
				job = 10*int64(who+1) + n
			}
			jobs[who] = append(jobs[who], job)
		}
	}
	return jobs
}

func newShift(t *testing.T, seed lottery, round, most int64) *shift {
	t.Helper()
	s := &shift{lottery: seed}
	s.mostInARow = s.draw(2, 30)
	jobs := s.drawnJobs()
	c, is := impl.NewCrew(round, most, jobs)
	checkCrewAnd(t, "a new crew", c, is, newCrewOf(round, most, jobs...), true)
	s.begun, s.crew = copiedCrew(c), c
	return s
}

// byWords is a Turn of a crew that is right, told by the document's words; a
// Spare that is none is told by Fits.
func byWords(was impl.Crew, who int64) (impl.Crew, bool) {
	if who < 0 || who >= int64(len(was.Hands)) {
		return was, false
	}
	c := copiedCrew(was)
	c.Clock++
	h := c.Hands[who]
	if h.At == impl.AtRest {
		if len(c.Jobs[who]) == 0 {
			return was, false
		}
		job, spare := c.Jobs[who][0], h.Spare
		h = toPut(job)
		if job == 0 {
			h = toTake()
		}
		h.Spare = spare
		c.Jobs[who], c.Begins[who] = c.Jobs[who][1:], c.Clock
	}
	s, then, is := asChaptersTell(c.Store, h)
	c.Store, c.Hands[who] = s, then
	if then.At == impl.AtRest {
		e := impl.Event{Who: who, Put: isForPutting(h.At), Value: then.Value, Reply: then.Reply, Begin: c.Begins[who], End: c.Clock}
		if e.Put {
			e.Value = h.Value
		}
		c.Events = append(c.Events, e)
	}
	if !is || c.Clock > mostClock || len(c.Events) > mostEvents || !impl.Fits(s, then) {
		return was, false
	}
	return c, true
}

func checkLinksStay(t *testing.T, was, now impl.Store) {
	t.Helper()
	for ring, r := range was.Rings {
		if r.Next != -1 && now.Rings[ring].Next != r.Next {
			t.Fatalf("ring %d: %+v, then %+v", ring, was, now)
		}
	}
}

// checkOthersStay wants of all but who that they are as they were, and of the
// Events that those that were there are the first ones.
func checkOthersStay(t *testing.T, was, now impl.Crew, who int64) {
	t.Helper()
	for other := range was.Hands {
		if int64(other) != who && (now.Hands[other] != was.Hands[other] || now.Begins[other] != was.Begins[other] ||
			!slices.Equal(now.Jobs[other], was.Jobs[other])) {
			t.Fatalf("%d moves in the turn of %d: %+v, then %+v", other, who, was, now)
		}
	}
	if n := len(was.Events); len(now.Events) < n || !slices.Equal(now.Events[:n], was.Events) {
		t.Fatalf("%+v, then %+v", was.Events, now.Events)
	}
}

func (s *shift) turn(t *testing.T, who int64) {
	t.Helper()
	was := copiedCrew(s.crew)
	want, wantIs := byWords(was, who)
	now, is := impl.Turn(s.crew, who)
	checkCrewAnd(t, "a turn", now, is, want, wantIs)
	checkCrew(t, "the argument", s.crew, was)
	checkCrewOk(t, "then", now, true)
	checkLinksStay(t, was.Store, now.Store)
	checkOthersStay(t, was, now, who)
	if t.Failed() {
		t.Fatalf("%+v, %d: %+v, %v", was, who, now, is)
	}
	s.crew, s.list = now, append(s.list, who)
	s.count(was, who, is)
}

func (s *shift) count(was impl.Crew, who int64, is bool) {
	if !is {
		s.nothing++
		return
	}
	if at := was.Hands[who].At; at != impl.AtRest {
		s.steps[at]++
	}
	for _, e := range s.crew.Events[len(was.Events):] {
		s.replies[e.Reply]++
	}
}

// run draws that many turns. One of them has some in a row, so that others are
// late, and now and then somebody has one who is not there.
func (s *shift) run(t *testing.T, turns int, behind func(t *testing.T)) {
	t.Helper()
	for len(s.list) < turns {
		who := s.draw(0, int64(len(s.crew.Hands)))
		if s.draw(0, 20) == 0 {
			who = s.draw(-2, 7)
		}
		for range min(s.draw(1, s.mostInARow), int64(turns-len(s.list))) {
			s.turn(t, who)
		}
		behind(t)
	}
}

// checkRestsAlone wants each Hand to rest when it has all turns from now on, as
// far as the Clock goes.
func (s *shift) checkRestsAlone(t *testing.T) {
	t.Helper()
	for who, h := range s.crew.Hands {
		_, then, steps := impl.Alone(s.crew.Store, h, mostStepsAlone)
		if !impl.IsResting(then) {
			t.Fatalf("%+v, %d: %+v behind %d steps", s.crew, who, then, steps)
		}
		c := s.crew
		for turns := int64(0); !impl.IsResting(c.Hands[who]); turns++ {
			now, is := impl.Turn(c, int64(who))
			if !is && turns+s.crew.Clock < mostClock || turns >= steps {
				t.Fatalf("%+v, %d: %+v, %v behind %d turns", s.crew, who, c, is, turns)
			}
			c = now
		}
		checkLinksStay(t, s.crew.Store, c.Store)
	}
}

// everyShift is of each Round and of several Mosts.
func everyShift(t *testing.T, seeds int64, with func(s *shift)) {
	t.Helper()
	for round := int64(2); round <= 8; round++ {
		for _, most := range []int64{1, 2, 3, 5, mostRings} {
			for seed := range seeds {
				with(newShift(t, lottery(seed*7919+round*131+most), round, most))
			}
		}
	}
}

func TestNobodyElsesHandMoves(t *testing.T) {
	var all tally
	nothing := 0
	everyShift(t, 24, func(s *shift) {
		s.run(t, 150, func(t *testing.T) {})
		nothing += s.nothing
		all.add(s.tally)
	})
	all.checkSteps(t, firstForPutting, lastAt)
	all.checkReplies(t)
	if nothing == 0 {
		t.Error("something was done each time")
	}
}

func TestAnyHandAloneRestsWithin400Steps(t *testing.T) {
	midst := 0
	everyShift(t, 4, func(s *shift) {
		s.checkRestsAlone(t)
		s.run(t, 200, func(t *testing.T) {
			s.checkRestsAlone(t)
			for _, h := range s.crew.Hands {
				if !impl.IsResting(h) {
					midst++
				}
			}
		})
	})
	if midst < 1000 {
		t.Errorf("%d were in the midst", midst)
	}
}

func TestTurnsOfNewCrews(t *testing.T) {
	everyShift(t, 3, func(s *shift) {
		s.run(t, int(s.draw(0, mostTurns+1)), func(t *testing.T) {})
		checkCrew(t, "all turns", impl.Turns(s.begun, s.list), s.crew)
		half := len(s.list) / 2
		checkCrew(t, "in two parts", impl.Turns(impl.Turns(s.begun, s.list[:half]), s.list[half:]), s.crew)
	})
}

func checkAllRest(t *testing.T, c impl.Crew) {
	t.Helper()
	for who, h := range c.Hands {
		if !impl.IsResting(h) || len(c.Jobs[who]) > 0 {
			t.Fatalf("%d is not done: %+v", who, c)
		}
	}
}

func jobsIn(c impl.Crew) int { return len(slices.Concat(c.Jobs...)) }

func TestFinishedOfNewCrews(t *testing.T) {
	hands := [mostHands + 1]int{}
	everyShift(t, 4, func(s *shift) {
		for range 3 {
			got := checkFinished(t, "behind drawn turns", s.crew)
			checkAllRest(t, got)
			if len(got.Events) != jobsIn(s.begun) {
				t.Fatalf("%+v: %+v", s.begun, got.Events)
			}
			s.run(t, len(s.list)+int(s.draw(0, 60)), func(t *testing.T) {})
		}
		hands[len(s.begun.Hands)]++
	})
	for n := 1; n <= mostHands; n++ {
		if hands[n] == 0 {
			t.Errorf("no crew of %d", n)
		}
	}
}

func TestFinishedOfNewCrewsNearTheEndOfTheClock(t *testing.T) {
	everyShift(t, 2, func(s *shift) {
		s.run(t, int(s.draw(0, 40)), func(t *testing.T) {})
		for range 3 {
			c := changedCrew(s.crew, clockIs(mostClock-s.draw(0, 80)))
			got := checkFinished(t, "near the end", c)
			if got.Clock < mostClock {
				checkAllRest(t, got)
			}
		}
	})
}

// However often it is asked, and whoever of the Hands is reckoned first, the
// answer is the same.
func TestFinishedIsTheSameEachTime(t *testing.T) {
	c := newCrewOf(2, 3, []int64{1, 0, 2, 0}, []int64{0, 3, 0, 4}, []int64{5, 0, 0, 6}, []int64{0, 7, 8, 0})
	want := impl.Finished(c)
	for range 40 {
		checkCrew(t, "once more", impl.Finished(c), want)
	}
}

// Promise 9: behind a finished crew, what is put alone is taken alone, first
// what was first.
func TestAloneBehindAFinishedCrew(t *testing.T) {
	behind := 0
	everyShift(t, 3, func(s *shift) {
		s.run(t, int(s.draw(0, 200)), func(t *testing.T) {})
		store := impl.Finished(s.crew).Store
		want := impl.ValuesIn(store)
		for value := range s.draw(1, 12) {
			then, reply := impl.PutAlone(store, 500+value)
			if reply == impl.ReDone {
				want = append(want, 500+value)
				behind++
			}
			store = then
		}
		checkList(t, "all there is", impl.Drained(store), want)
	})
	if behind == 0 {
		t.Error("nothing was put")
	}
}
