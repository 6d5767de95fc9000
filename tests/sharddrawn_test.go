package tests

import (
	"slices"
	"testing"

	"loop.example/g00610/impl"
)

// A street is of several Stores, at which drawn ones put, each one its own
// Values, and from which is taken in between. Beside each Store stands the
// queue that it is to be.
type street struct {
	lottery
	stores   []impl.Store
	queues   []*queue
	put, got map[int64][]int64
	replies  [lastReply + 1]int
}

// What one puts tells who put it.
const perPutter = 1000

func newStreet(t *testing.T, seed lottery, n, round, most int64) *street {
	t.Helper()
	l, is := impl.NewShards(n, round, most)
	if !is {
		t.Fatalf("no %d stores of %d and %d", n, round, most)
	}
	s := &street{lottery: seed, stores: l, put: map[int64][]int64{}, got: map[int64][]int64{}}
	for range n {
		s.queues = append(s.queues, &queue{round: round, most: most, rings: make([][]int64, 1)})
	}
	return s
}

func (s *street) check(t *testing.T, then []impl.Store, reply, want int64) {
	t.Helper()
	if reply != want || !impl.ShardsOk(then) {
		t.Fatalf("%+v, then %+v: Reply %d, not %d", s.stores, then, reply, want)
	}
	for at, q := range s.queues {
		checkList(t, "what is there", impl.ValuesIn(then[at]), slices.Concat(q.rings...))
	}
	s.stores = then
	s.replies[reply]++
}

// puts is by one of them, who has put all of his Values that far.
func (s *street) puts(t *testing.T, who, value int64) {
	t.Helper()
	was := copiedShards(s.stores)
	want := s.queues[who%int64(len(s.queues))].put(value)
	then, reply := impl.ShardPut(s.stores, who, value)
	checkShards(t, "the argument", s.stores, was)
	s.check(t, then, reply, want)
	if reply == impl.ReDone {
		s.put[who] = append(s.put[who], value)
	}
}

func (s *street) takes(t *testing.T, from int) int64 {
	t.Helper()
	was := copiedShards(s.stores)
	want, wantValue := int64(impl.ReEmpty), int64(0)
	for _, at := range roundFrom(len(s.queues), from) {
		if want == impl.ReEmpty {
			want, wantValue = s.queues[at].take()
		}
	}
	then, reply, value := impl.ShardTake(s.stores, int64(from))
	checkShards(t, "the argument", s.stores, was)
	s.check(t, then, reply, want)
	if value != wantValue {
		t.Fatalf("from %d: %d, not %d", from, value, wantValue)
	}
	if reply == impl.ReGot {
		who := value / perPutter
		s.got[who] = append(s.got[who], value)
	}
	return reply
}

// putsDrawn is by one of so many, whom a lottery draws.
func (s *street) putsDrawn(t *testing.T, putters, count int64) {
	t.Helper()
	who := s.draw(0, putters)
	s.puts(t, who, who*perPutter+1+count)
}

func (s *street) takesDrawn(t *testing.T) int64 {
	t.Helper()
	return s.takes(t, int(s.draw(0, int64(len(s.queues)))))
}

// checkAllComeInOrder takes till nothing is there.
func (s *street) checkAllComeInOrder(t *testing.T) {
	t.Helper()
	for s.takesDrawn(t) == impl.ReGot {
	}
	for who, want := range s.put {
		checkList(t, "what one put, alone", s.got[who], want)
	}
	if len(s.got) > len(s.put) {
		t.Errorf("%v of %v", s.got, s.put)
	}
}

// everyStreet is of one to four Stores, of each Round, and of one ring or more.
func everyStreet(t *testing.T, with func(s *street)) {
	t.Helper()
	var replies [lastReply + 1]int
	for n := int64(1); n <= mostShards; n++ {
		for round := int64(2); round <= 8; round++ {
			for _, most := range []int64{1, 2, 5, mostRings} {
				s := newStreet(t, lottery(n*7919+round*131+most), n, round, most)
				with(s)
				for reply, times := range s.replies {
					replies[reply] += times
				}
			}
		}
	}
	for reply := impl.ReDone; reply <= lastReply; reply++ {
		if replies[reply] == 0 {
			t.Errorf("nobody ever rested with %d", reply)
		}
	}
}

// Each one puts at its own Store, as many as there is room for and more.
func TestOneWhoPutsAlone(t *testing.T) {
	everyStreet(t, func(s *street) {
		for who := range int64(len(s.queues)) {
			for count := range s.queues[who].round*s.queues[who].most + 2 {
				s.puts(t, who, (who+1)*perPutter-1-count)
			}
		}
		s.checkAllComeInOrder(t)
	})
}

// Others put in between, at theirs, and at the same Store.
func TestOneWhoPutsAmongOthers(t *testing.T) {
	everyStreet(t, func(s *street) {
		putters := s.draw(1, 9)
		for count := range int64(60) {
			s.putsDrawn(t, putters, count)
		}
		s.checkAllComeInOrder(t)
	})
}

// What was put is taken in between, from wherever a lottery draws, now rather
// more often than is put, and now less often.
func TestOneWhoPutsWhileOthersTake(t *testing.T) {
	everyStreet(t, func(s *street) {
		putters := s.draw(1, 9)
		for count := range int64(120) {
			if s.draw(0, 8) < 3+4*(count/20%2) {
				s.takesDrawn(t)
			} else {
				s.putsDrawn(t, putters, count)
			}
		}
		s.checkAllComeInOrder(t)
	})
}
