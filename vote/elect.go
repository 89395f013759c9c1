package vote

import (
	"sync"

	"lagoon/api"
	"lagoon/quorum"
)

// told is a vote that a server tells all others.
type told struct {
	from int8
	vote api.Vote
}

// Elect tells who leads where these servers vote, and every vote is heard by all.
func Elect(s *quorum.System, voters uint8, current []uint32, last []api.Zxid) (int8, bool) {
	if len(current) != s.Size() || len(last) != s.Size() || !s.Has(voters) {
		return 0, false
	}
	all := votersOf(s, voters, current, last)
	news := beginAll(all)
	for len(news) > 0 {
		news = turn(all, news)
	}
	return all[0].Leader() // all have the same vote by now, and each has heard it from every other one
}

// votersOf makes the voters of a set; New refuses those that do not count.
func votersOf(s *quorum.System, voters uint8, current []uint32, last []api.Zxid) []*Voter {
	var all []*Voter
	for n := range s.Size() {
		if voters>>n&1 == 0 {
			continue
		}
		if v, e := New(s, int8(n), current[n], last[n]); e == api.OK {
			all = append(all, v)
		}
	}
	return all
}

func beginAll(all []*Voter) []told {
	var news []told
	for _, v := range all {
		if x, e := v.Begin(); e == api.OK {
			news = append(news, told{v.me(), x})
		}
	}
	return news
}

// seat is where a server hears in a turn what the others told, and tells what it has to tell then.
type seat struct {
	server  int8
	in, out chan told
}

// turn lets each voter hear what the others told, all at the same time, and gathers what they have to tell then.
func turn(all []*Voter, news []told) []told {
	var running sync.WaitGroup
	var seats []seat
	for _, v := range all {
		s := seat{v.me(), make(chan told), make(chan told, 1)} // out has room for the answer: nobody waits for being asked
		seats = append(seats, s)
		running.Add(1)
		go v.listen(s.in, s.out, &running)
	}
	tell(seats, news)
	running.Wait()
	var next []told
	for _, s := range seats {
		for x := range s.out {
			next = append(next, x)
		}
	}
	return next
}

// tell sends each vote to all but the one that told it.
func tell(seats []seat, news []told) {
	for _, x := range news {
		for _, s := range seats {
			if s.server != x.from {
				s.in <- x
			}
		}
	}
	for _, s := range seats {
		close(s.in)
	}
}

// listen hears all that comes, and tells its own vote if that is another one then.
func (v *Voter) listen(in <-chan told, out chan<- told, running *sync.WaitGroup) {
	defer running.Done()
	defer close(out)
	was := v.own
	for x := range in {
		v.Hear(x.from, x.vote)
	}
	if v.own != was {
		out <- told{v.me(), v.own}
	}
}
