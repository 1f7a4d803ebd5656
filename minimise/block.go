package minimise

import (
	"container/heap"
	"sort"

	"threshing/api"
	"threshing/arena"
	"threshing/cnf"
	"threshing/trail"
)

// block is what a level's literals come to, as one after the other gives way to those that made it false.
type block struct {
	trail *trail.Trail
	level int
	lits  map[int]api.Lit // by their places on the trail: all that were ever in it
	now   places          // of those that are in it now
}

func newBlock(t *trail.Trail, level int) *block {
	return &block{trail: t, level: level, lits: map[int]api.Lit{}}
}

// take takes in a literal of the level. One that was in it never comes again: so a reason's own literal is left out, and what is not right comes to an end.
func (b *block) take(l api.Lit) {
	place := b.trail.Place(cnf.Var(l))
	if _, been := b.lits[place]; !been {
		b.lits[place] = l
		heap.Push(&b.now, place)
	}
}

// one is the one literal to which the block comes, beside those that are held; false, if it comes to none.
func (b *block) one(a *arena.Arena, held map[api.Lit]struct{}) (api.Lit, bool) {
	for b.now.Len() > 1 {
		last, _ := heap.Pop(&b.now).(int)
		reason, ok := reasonOf(a, b.trail, b.lits[last])
		if !ok {
			return 0, false
		}
		for _, l := range reason {
			_, in := held[l]
			switch level := levelOf(b.trail, l); {
			case level == b.level:
				b.take(l)
			case level != 0 && !in:
				return 0, false
			}
		}
	}
	return b.lits[b.now.IntSlice[0]], true
}

// places are places on the trail as container/heap keeps them: the last one comes first.
type places struct{ sort.IntSlice }

// Less is container/heap's.
func (p places) Less(i, j int) bool { return p.IntSlice[i] > p.IntSlice[j] }

// Push is container/heap's.
func (p *places) Push(x any) {
	if place, ok := x.(int); ok {
		p.IntSlice = append(p.IntSlice, place)
	}
}

// Pop is container/heap's.
func (p *places) Pop() any {
	end := p.Len() - 1
	place := p.IntSlice[end]
	p.IntSlice = p.IntSlice[:end]
	return place
}
