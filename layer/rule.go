package layer

import (
	"slices"

	"chiti/api"
)

// broken returns the first one of the rules 1 to 7 that bricks break, and where; 0 and 0 if they are a tiling.
func (b *board) broken(l []api.Laid) (rule, at int) {
	numbers := b.numbersOf(l)
	// The rules behind the first one speak of pieces, which there are only if that one is kept: they are called in their order.
	rules := [...]func() int{
		func() int { return slices.Index(numbers, -1) },
		func() int { return b.firstNotBehind(numbers) },
		func() int { return b.firstOver(numbers) },
		func() int { return first(len(b.Ground), not(b.covered(numbers...).has)) },
		func() int { return b.firstMiscounted(l) },
		func() int { return first(len(b.Fixed), func(i int) bool { return !slices.Contains(l, b.Fixed[i]) }) },
		func() int { return b.firstBelow(b.joints(numbers...)) },
	}
	for i, firstBreach := range rules {
		if at := firstBreach(); at >= 0 {
			return i + 1, at
		}
	}
	return 0, 0
}

// covered returns the quarters of pieces.
func (b *board) covered(numbers ...int) quarters {
	var all quarters
	for _, number := range numbers {
		all |= b.pieces[number].quarters
	}
	return all
}

// firstNotBehind returns the first piece that does not come behind the one before, by its quarters.
func (b *board) firstNotBehind(numbers []int) int {
	least := func(i int) int { return b.pieces[numbers[i]].quarters.least() }
	return first(len(numbers), func(i int) bool { return i > 0 && least(i) <= least(i-1) })
}

// firstOver returns the first piece with a quarter of a piece before it.
func (b *board) firstOver(numbers []int) int {
	return first(len(numbers), func(i int) bool { return b.covered(numbers[i])&b.covered(numbers[:i]...) != 0 })
}

// firstMiscounted returns the first kind of which there are more or fewer bricks than there should be.
func (b *board) firstMiscounted(l []api.Laid) int {
	var counts [api.MaxKinds]int
	for _, x := range l {
		counts[x.Kind]++
	}
	return first(len(b.Counts), func(kind int) bool { return counts[kind] != b.Counts[kind] })
}

// firstBelow returns the first edge below that is one of the joints.
func (b *board) firstBelow(joints edges) int {
	return first(len(b.Below), func(i int) bool { return !b.known(b.Below[i]).and(joints).isEmpty() })
}

// refuted reports whether the bricks, each at the lightest of its places, are heavier than the ground, or can not be laid at all.
func (b *board) refuted(weights []int) bool {
	heavy := 0
	for kind, count := range b.Counts {
		lightest, isLaid := b.lightest(kind, weights)
		if count > 0 && !isLaid {
			return true
		}
		heavy += count * lightest
	}
	for _, weight := range weights {
		heavy -= weight
	}
	return heavy > 0
}

// lightest returns the least weight of a piece of a kind, and whether there is one.
func (b *board) lightest(kind int, weights []int) (weight int, isLaid bool) {
	for _, p := range b.pieces {
		if p.Kind != kind {
			continue
		}
		own := 0
		for number := range p.quarters.numbers {
			own += weights[number]
		}
		if !isLaid || own < weight {
			weight, isLaid = own, true
		}
	}
	return weight, isLaid
}
