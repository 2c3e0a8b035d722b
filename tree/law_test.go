package tree

import (
	"math/rand"
	"reflect"
	"slices"
	"testing"

	"attestor/api"
)

// P7.5

func TestLeavesOfBuiltTreesAreAccepted(t *testing.T) {
	r := rand.New(rand.NewSource(91))
	for f := range primes {
		sizes(6, func(height, cap int) {
			leaves := some(r, f, 1<<height)
			x, e := Build(f, leaves, cap)
			want(t, "the error of Build", e, api.OK)
			for i, leaf := range leaves {
				path, e := Path(x, i)
				want(t, "the error of Path", e, api.OK)
				want(t, "Check of a leaf", Check(f, Cap(x), i, leaf, path), true)
			}
		})
	}
}

// P7.6

// TestOpeningsThatContradictClash looks for openings of a place that one cap accepts.
func TestOpeningsThatContradictClash(t *testing.T) {
	r := rand.New(rand.NewSource(92))
	for _, i := range []int{0, 1, 2, 3} {
		cap := some(r, 0, 2)
		cap[i>>1] = nodeOf(0, api.Digest{1, 2}, api.Digest{3, 4})
		type opening struct{ leaf, beside api.Digest }
		var found []opening
		for len(found) < 4 {
			o := opening{some(r, 0, 1)[0], some(r, 0, 1)[0]}
			if Check(0, cap, i, o.leaf, []api.Digest{o.beside}) {
				found = append(found, o)
			}
		}
		for _, o := range found {
			for _, other := range found {
				x, y, ok := Clash(0, i, o.leaf, other.leaf, []api.Digest{o.beside}, []api.Digest{other.beside})
				want(t, "whether different openings clash", ok, o != other)
				want(t, "whether the pairs differ", x != y, o != other)
				want(t, "the node of the second pair", nodeOf(0, y[0], y[1]), nodeOf(0, x[0], x[1]))
				if ok {
					want(t, "the node of the clash", nodeOf(0, x[0], x[1]), cap[i>>1])
				}
			}
		}
	}
}

func TestMeetingWaysAreAcceptedAndClash(t *testing.T) {
	r := rand.New(rand.NewSource(93))
	for n := 1; n <= 3; n++ {
		for j := range n {
			for range 4 {
				i := r.Intn(1 << (n + 1))
				a, b, p, q := meeting(r, i, j, n)
				cap := some(r, 0, 2)
				cap[i>>n] = Climb(0, i, a, p)
				want(t, "Check of the one", Check(0, cap, i, a, p), true)
				want(t, "Check of the other", Check(0, cap, i, b, q), true)
				x, y, ok := Clash(0, i, a, b, p, q)
				want(t, "whether they clash", ok && x != y, true)
				want(t, "the node of the second pair", nodeOf(0, y[0], y[1]), nodeOf(0, x[0], x[1]))
			}
		}
	}
}

// P7.7

func TestReplaceIsBuildOfTheChangedLeaves(t *testing.T) {
	r := rand.New(rand.NewSource(94))
	for f := range primes {
		sizes(5, func(height, cap int) {
			leaves := some(r, f, 1<<height)
			x, _ := Build(f, leaves, cap)
			for i := range leaves {
				leaf := some(r, f, 1)[0]
				leaves[i] = leaf
				wanted, _ := Build(f, leaves, cap)
				var e api.Errno
				x, e = Replace(x, i, leaf)
				wantTree(t, "Replace", x, e, wanted)
			}
		})
	}
}

func TestTreesOverCaps(t *testing.T) {
	r := rand.New(rand.NewSource(95))
	for f := range primes {
		sizes(6, func(height, cap int) {
			leaves := some(r, f, 1<<height)
			low, _ := Build(f, leaves, cap)
			high, e := Build(f, Cap(low), 0)
			want(t, "the error of Build over a cap", e, api.OK)
			whole, _ := Build(f, leaves, 0)
			wantList(t, "the cap of the tree over the cap", Cap(high), Cap(whole))
			for i := range leaves {
				path, _ := Path(whole, i)
				below, _ := Path(low, i)
				above, _ := Path(high, i>>(height-cap))
				wantList(t, "the path in two trees", append(below, above...), path)
			}
		})
	}
}

// P1

// answers returns what all functions say of some arguments.
func answers(f, i, cap int, leaf api.Digest, l, m []api.Digest, x api.Tree) []any {
	built, e := Build(f, l, cap)
	path, e2 := Path(x, i)
	replaced, e3 := Replace(x, i, leaf)
	left, right, ok := Clash(f, i, leaf, api.Digest{}, l, m)
	return []any{built, e, path, e2, replaced, e3, left, right, ok, Valid(x), Cap(x), Climb(f, i, leaf, l), Check(f, l, i, leaf, m)}
}

func TestAllArgumentsHaveAnAnswerThatStays(t *testing.T) {
	r := rand.New(rand.NewSource(96))
	numbers := append(slices.Clone(noNumbers), 0, 1, 2, 3, 4, 18)
	lists := func() []api.Digest {
		l := some(r, r.Intn(4), []int{0, 1, 2, 3, 4, 8, 18, 19}[r.Intn(8)])
		if len(l) > 0 && r.Intn(3) == 0 {
			l[r.Intn(len(l))] = improper(3)[r.Intn(10)]
		}
		return l
	}
	for _, f := range append([]int{0, 1, 2, 3}, noFields...) {
		for _, i := range numbers {
			for _, cap := range numbers {
				x := api.Tree{Field: f, Height: i, Cap: cap}
				for range r.Intn(4) {
					x.Levels = append(x.Levels, lists())
				}
				leaf, l, m := api.Digest{r.Uint64() >> r.Intn(64), 5}, lists(), lists()
				once := answers(f, i, cap, leaf, l, m, x)
				again := answers(f, i, cap, leaf, slices.Clone(l), slices.Clone(m), copyOf(x))
				want(t, "whether the second answer is the first", reflect.DeepEqual(once, again), true)
			}
		}
	}
}

// Rule 3

// scrub writes over all digests of some trees' levels, and behind their ends.
func scrub(levels ...[]api.Digest) {
	for _, level := range levels {
		for i := range level[:cap(level)] {
			level[:cap(level)][i] = api.Digest{96, 95}
		}
	}
}

func TestResultsShareNothing(t *testing.T) {
	r := rand.New(rand.NewSource(97))
	for f := range primes {
		sizes(4, func(height, cap int) {
			room := some(r, f, 2<<height)
			leaves, before := room[:1<<height], slices.Clone(room)
			wanted := treeOf(f, leaves, cap)
			x, _ := Build(f, leaves, cap)
			wantList(t, "the leaves that were given", room, before)
			scrub(room)
			wantTree(t, "the tree after its leaves were changed", x, api.OK, wanted)

			y, _ := Replace(x, 0, api.Digest{1, 2})
			top, _ := Path(x, 0)
			scrub(y.Levels...)
			scrub(Cap(x))
			scrub(top)
			wantTree(t, "the tree after results of it were changed", x, api.OK, wanted)

			for l := range x.Levels { // each level alone
				y, _ := Replace(x, 0, x.Levels[0][0])
				z, _ := Build(f, x.Levels[0], cap)
				scrub(y.Levels[l])
				scrub(z.Levels[l])
				for k := range x.Levels {
					if k != l {
						wantList(t, "another level of Replace", y.Levels[k], wanted.Levels[k])
						wantList(t, "another level of Build", z.Levels[k], wanted.Levels[k])
					}
				}
			}
			y, _ = Replace(x, 1<<height-1, api.Digest{3, 4})
			again := copyOf(y)
			scrub(x.Levels...)
			wantTree(t, "the replaced tree after the other was changed", y, api.OK, again)
		})
	}
}

func TestOpeningsStayAsTheyAre(t *testing.T) {
	r := rand.New(rand.NewSource(98))
	for range 20 {
		a, b, p, q := meeting(r, 2, r.Intn(2), 2)
		cap := []api.Digest{Climb(0, 2, a, p)}
		keptP, keptQ, keptCap := slices.Clone(p), slices.Clone(q), slices.Clone(cap)
		Climb(0, 2, a, p)
		Check(0, cap, 2, a, p)
		Clash(0, 2, a, b, p, q)
		wantList(t, "the first path", p, keptP)
		wantList(t, "the second path", q, keptQ)
		wantList(t, "the cap", cap, keptCap)
	}
}

// The examples of the chapter

func TestExamples(t *testing.T) {
	z := api.Digest{}
	root := []api.Digest{{19, 58}}
	x, e := Build(0, []api.Digest{z, z}, 0)
	wantTree(t, "Build(0, z z, 0)", x, e, api.Tree{Height: 1, Levels: [][]api.Digest{{z, z}, root}})
	wantList(t, "its cap", Cap(x), root)
	path, e := Path(x, 1)
	want(t, "the error of Path", e, api.OK)
	wantList(t, "Path of that, 1", path, []api.Digest{z})
	want(t, "Check(0, 19 58, 1, z, that path)", Check(0, root, 1, z, path), true)
	want(t, "Check(0, 19 58, 2, z, z)", Check(0, root, 2, z, path), false)
	want(t, "Check(0, 19 58, 0, 97 0, z)", Check(0, root, 0, api.Digest{97, 0}, path), false)
	want(t, "Check(0, 19 58 0 0, 3, z, z)", Check(0, []api.Digest{{19, 58}, z}, 3, z, path), false)
	x, e = Build(0, []api.Digest{z, z, z}, 0)
	wantNoTree(t, "Build(0, z z z, 0)", x, e, api.ErrArg)
	x, e = Build(0, []api.Digest{z, z}, 2)
	wantNoTree(t, "Build(0, z z, 2)", x, e, api.ErrArg)
	x, e = Build(0, []api.Digest{{97, 0}}, 0)
	wantNoTree(t, "Build(0, 97 0, 0)", x, e, api.ErrRange)
	want(t, "Climb(0, 0, z, nothing)", Climb(0, 0, z, nil), z)
	wantClash(t, "nothing", 0, 0, z, z, nil, nil, pair{}, pair{}, false)
}
