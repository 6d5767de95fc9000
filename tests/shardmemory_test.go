package tests

import (
	"slices"
	"testing"

	"loop.example/g00610/impl"
)

// A shardCall is one of chapter 15 that answers Stores of Stores.
type shardCall struct {
	name string
	do   func(l []impl.Store) []impl.Store
}

// shardCalls have each way that Stores are answered, at each place.
func shardCalls() []shardCall {
	put := func(name string, who, value int64) shardCall {
		return shardCall{name, func(l []impl.Store) []impl.Store { l, _ = impl.ShardPut(l, who, value); return l }}
	}
	all := []shardCall{
		put("ShardPut of nobody", -1, 70),
		put("ShardPut of nobody, too", mostNo+1, 70),
		put("ShardPut of no value", 0, 0),
	}
	for at := range int64(mostShards) {
		all = append(all, put("ShardPut", at, 70))
	}
	for from := int64(-1); from <= mostShards; from++ {
		all = append(all, shardCall{"ShardTake", func(l []impl.Store) []impl.Store {
			l, _, _ = impl.ShardTake(l, from)
			return l
		}})
	}
	return all
}

// roomyShards have spare room behind each list, their own as well.
func roomyShards(l []impl.Store) []impl.Store {
	l = append(copiedShards(l), filledStore(3, 2, 1), filledStore(4, 3, 2))
	l = l[: len(l)-2 : len(l)]
	for at := range l {
		l[at] = roomy(l[at])
	}
	return l
}

func shardsWithRoom(l []impl.Store) []impl.Store {
	n := len(l)
	l = slices.Clone(l[:n+2])
	for at := range n {
		l[at] = withRoom(l[at])
	}
	return l
}

func spoilShards(l []impl.Store) {
	l = l[:cap(l)]
	for at := range l {
		spoilStore(l[at])
		l[at] = impl.Store{Round: -7}
	}
}

func TestShardCallsShareNoMemoryWithTheArgument(t *testing.T) {
	for _, given := range append(usedShards(), emptyShards(mostShards)) {
		for _, call := range shardCalls() {
			l := roomyShards(given)
			kept := copiedShards(shardsWithRoom(l))
			impl.ShardsOk(l)
			got := call.do(l)
			want := copiedShards(got)
			checkShards(t, call.name+", the argument behind it", shardsWithRoom(l), kept)
			second := call.do(l)
			spoilShards(got)
			checkShards(t, call.name+", the argument behind a change of the answer", shardsWithRoom(l), kept)
			checkShards(t, call.name+", another answer behind a change of the first", second, want)
			spoilShards(l)
			checkShards(t, call.name+", the answer behind a change of the argument", second, want)
		}
	}
}

func TestShardCallsLeaveWhatIsNotRight(t *testing.T) {
	for name, given := range wrongShards() {
		if len(given) > mostShards+2 {
			continue
		}
		l := roomyShards(given)
		kept := copiedShards(shardsWithRoom(l))
		impl.ShardsOk(l)
		for _, call := range shardCalls() {
			got := call.do(l)
			spoilShards(got)
		}
		checkShards(t, "the argument, "+name, shardsWithRoom(l), kept)
	}
}

// checkShardsApart spoils each Store in turn, and wants the others to stay; and
// so do the lists within each of them.
func checkShardsApart(t *testing.T, name string, got []impl.Store) {
	t.Helper()
	for at := range got {
		want := copiedShards(got)
		checkListsApart(t, name+", the rings", got[at])
		checkShards(t, name+", the rings of the others", got, want)
		spoilStore(got[at])
		kept := want[at]
		want[at] = got[at]
		checkShards(t, name+", the other stores", got, want)
		got[at] = kept
	}
}

func TestShardCallsShareNoMemoryWithinAnAnswer(t *testing.T) {
	for _, given := range append(usedShards(), emptyShards(mostShards)) {
		for _, call := range shardCalls() {
			checkShardsApart(t, call.name, call.do(copiedShards(given)))
		}
	}
}

// All Stores of the argument are one and the same, and so are the places of its
// rings; what is done at one of them is not seen at another.
func TestShardsOfOneAndTheSameStore(t *testing.T) {
	for n := 1; n <= mostShards; n++ {
		s := linkedStore(2, 3, -1, -1)
		s.Rings[1].Places = s.Rings[0].Places
		l := slices.Repeat([]impl.Store{s}, n)
		kept := copiedShards(l)
		for _, call := range shardCalls() {
			checkShards(t, call.name+", of one store", call.do(l), call.do(copiedShards(kept)))
			checkShardsApart(t, call.name+", of one store", call.do(l))
			checkShards(t, call.name+", the argument", l, kept)
		}
	}
}

func TestNewShardsShareNoMemory(t *testing.T) {
	for n := int64(1); n <= mostShards; n++ {
		first, _ := impl.NewShards(n, 3, 4)
		second, _ := impl.NewShards(n, 3, 4)
		kept := copiedShards(first)
		checkShardsApart(t, "new ones", first)
		spoilShards(first)
		checkShards(t, "another answer behind a change of the first", second, kept)
		third, _ := impl.NewShards(n, 3, 4)
		checkShards(t, "a later answer", third, kept)
	}
}
