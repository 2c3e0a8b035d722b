package tree

import (
	"math"
	"math/rand"
	"slices"
	"testing"

	"attestor/api"
)

// P7.1

func TestBuild(t *testing.T) {
	r := rand.New(rand.NewSource(71))
	for f := range primes {
		sizes(6, func(height, cap int) {
			leaves := some(r, f, 1<<height)
			got, e := Build(f, leaves, cap)
			wantTree(t, "Build", got, e, treeOf(f, leaves, cap))
			want(t, "Valid of a built tree", Valid(got), true)
			wantList(t, "Cap of a built tree", Cap(got), treeOf(f, leaves, cap).Levels[height-cap])
		})
	}
}

func TestBuildTheHighestTrees(t *testing.T) {
	r := rand.New(rand.NewSource(72))
	leaves := some(r, 3, 1<<api.MaxHeight)
	for _, cap := range []int{0, 3, api.MaxHeight - 1, api.MaxHeight} {
		got, e := Build(3, leaves, cap)
		want(t, "the error of Build", e, api.OK)
		want(t, "the height", got.Height, api.MaxHeight)
		want(t, "Valid", Valid(got), true)
		want(t, "the number of levels", len(got.Levels), api.MaxHeight-cap+1)
		wantList(t, "the leaves", got.Levels[0], leaves)
		i := r.Intn(len(leaves))
		path, e := Path(got, i)
		want(t, "the error of Path", e, api.OK)
		want(t, "the reached element of the cap", climbOf(3, i, leaves[i], path), Cap(got)[i>>(api.MaxHeight-cap)])
	}
	twice := append(slices.Clone(leaves), leaves...)
	for _, l := range [][]api.Digest{twice, twice[:len(leaves)+1], twice[:len(leaves)-1], twice[:len(leaves)*3/2]} {
		got, e := Build(3, l, 0)
		wantNoTree(t, "Build over too many leaves, or over a number that is no power of two", got, e, api.ErrArg)
	}
}

func TestBuildOfTheWrongNumber(t *testing.T) {
	r := rand.New(rand.NewSource(73))
	for f := range primes {
		for n := range 70 {
			leaves := some(r, f, n)
			got, e := Build(f, leaves, 0)
			if n > 0 && n&(n-1) == 0 {
				wantTree(t, "Build", got, e, treeOf(f, leaves, 0))
				continue
			}
			wantNoTree(t, "Build over a number of leaves that is no power of two", got, e, api.ErrArg)
		}
		for _, none := range [][]api.Digest{nil, {}} {
			got, e := Build(f, none, 0)
			wantNoTree(t, "Build over nothing", got, e, api.ErrArg)
		}
	}
}

func TestBuildErrors(t *testing.T) {
	r := rand.New(rand.NewSource(74))
	for f := range primes {
		for height := range 4 {
			leaves := some(r, f, 1<<height)
			bad := slices.Clone(leaves)
			for i := range leaves {
				for _, d := range improper(f) {
					bad[i] = d
					for cap := range height + 1 {
						got, e := Build(f, bad, cap)
						wantNoTree(t, "Build over a leaf that is not proper", got, e, api.ErrRange)
					}
				}
				bad[i] = leaves[i]
			}
			bad[len(bad)-1] = api.Digest{most, 0} // ErrArg comes first
			for _, l := range [][]api.Digest{leaves, bad} {
				for _, cap := range append(slices.Clone(noNumbers), height+1, height+2) {
					got, e := Build(f, l, cap)
					wantNoTree(t, "Build with a cap that is none", got, e, api.ErrArg)
				}
				for _, no := range noFields {
					got, e := Build(no, l, 0)
					wantNoTree(t, "Build in no field", got, e, api.ErrArg)
				}
				if height > 0 {
					got, e := Build(f, append(slices.Clone(l), l[0]), 0)
					wantNoTree(t, "Build over one leaf too many", got, e, api.ErrArg)
				}
			}
		}
	}
}

func TestValid(t *testing.T) {
	r := rand.New(rand.NewSource(75))
	for f := range primes {
		sizes(4, func(height, cap int) {
			x := anyTree(r, f, height, cap)
			want(t, "Valid of a tree of any nodes", Valid(x), true)
			wantList(t, "Cap of a tree of any nodes", Cap(x), x.Levels[height-cap])
			for _, y := range broken(r, x) {
				want(t, "Valid of "+y.name, Valid(y.tree), false)
				wantList(t, "Cap of "+y.name, Cap(y.tree), nil)
			}
		})
	}
	want(t, "Valid of the zero tree", Valid(api.Tree{}), false)
	wantList(t, "Cap of the zero tree", Cap(api.Tree{}), nil)
	high := anyTree(r, 1, api.MaxHeight, api.MaxHeight-1)
	want(t, "Valid of the highest tree", Valid(high), true)
	high = anyTree(r, 1, api.MaxHeight+1, api.MaxHeight)
	want(t, "Valid of a tree that is too high", Valid(high), false)
	high = anyTree(r, 1, api.MaxHeight+1, api.MaxHeight+1)
	want(t, "Valid of a cap that is too high", Valid(high), false)
}

// wrong is a tree that is not valid, and what is wrong with it.
type wrong struct {
	name string
	tree api.Tree
}

// broken returns trees that are not valid, made of a valid one.
func broken(r *rand.Rand, x api.Tree) []wrong {
	var out []wrong
	add := func(name string, change func(y *api.Tree)) {
		y := copyOf(x)
		change(&y)
		out = append(out, wrong{name, y})
	}
	f, height, cap, last := x.Field, x.Height, x.Cap, len(x.Levels)-1
	for _, no := range noFields {
		add("a tree of no field", func(y *api.Tree) { y.Field = no })
	}
	for _, no := range append(slices.Clone(noNumbers), height+1, height-1) {
		add("a tree of another height", func(y *api.Tree) { y.Height = no })
		add("a tree of another height and cap", func(y *api.Tree) { y.Height, y.Cap = no, no-height+cap })
	}
	for _, no := range append(slices.Clone(noNumbers), height+1, cap+1, cap-1) {
		add("a tree with another cap", func(y *api.Tree) { y.Cap = no })
	}
	add("a tree without levels", func(y *api.Tree) { y.Levels = nil })
	add("a tree without its cap", func(y *api.Tree) { y.Levels = y.Levels[:last] })
	add("a tree without its leaves", func(y *api.Tree) { y.Levels = y.Levels[1:] })
	add("a tree with another level", func(y *api.Tree) { y.Levels = append(y.Levels, some(r, f, 1<<cap/2)) })
	add("a tree with an empty level", func(y *api.Tree) { y.Levels = append(y.Levels, nil) })
	add("a tree with a level for a cap below 0", func(y *api.Tree) {
		for c := cap - 1; c >= -1; c-- {
			y.Levels = append(y.Levels, some(r, f, 1<<(c+1)/2))
		}
		y.Cap = -1
	})
	for l := range x.Levels {
		add("a tree with a longer level", func(y *api.Tree) { y.Levels[l] = append(y.Levels[l], api.Digest{}) })
		add("a tree with a shorter level", func(y *api.Tree) { y.Levels[l] = y.Levels[l][1:] })
		add("a tree with a missing level", func(y *api.Tree) { y.Levels[l] = nil })
		for _, d := range improper(f) {
			i := r.Intn(len(x.Levels[l]))
			add("a tree with a digest that is not proper", func(y *api.Tree) { y.Levels[l][i] = d })
		}
		add("a tree whose first digest is not proper", func(y *api.Tree) { y.Levels[l][0] = api.Digest{primes[f]} })
		add("a tree whose last digest is not proper", func(y *api.Tree) { y.Levels[l][len(y.Levels[l])-1] = api.Digest{0, primes[f]} })
	}
	return out
}

// P7.2

func TestPath(t *testing.T) {
	r := rand.New(rand.NewSource(76))
	for f := range primes {
		sizes(5, func(height, cap int) {
			x := anyTree(r, f, height, cap)
			for i := range 1 << height {
				var wanted []api.Digest
				for l, place := 0, i; l < height-cap; l, place = l+1, place/2 {
					other := place + 1
					if place%2 == 1 {
						other = place - 1
					}
					wanted = append(wanted, x.Levels[l][other])
				}
				got, e := Path(x, i)
				want(t, "the error of Path", e, api.OK)
				wantList(t, "Path", got, wanted)
			}
		})
	}
}

func TestReplace(t *testing.T) {
	r := rand.New(rand.NewSource(77))
	for f := range primes {
		sizes(5, func(height, cap int) {
			x := anyTree(r, f, height, cap)
			for i := range 1 << height {
				for _, leaf := range append(some(r, f, 2), x.Levels[0][i]) {
					wanted := copyOf(x)
					wanted.Levels[0][i] = leaf
					for l, place := 0, i/2; l < height-cap; l, place = l+1, place/2 {
						wanted.Levels[l+1][place] = nodeOf(f, wanted.Levels[l][2*place], wanted.Levels[l][2*place+1])
					}
					got, e := Replace(x, i, leaf)
					wantTree(t, "Replace", got, e, wanted)
				}
			}
		})
	}
}

func TestPathAndReplaceErrors(t *testing.T) {
	r := rand.New(rand.NewSource(78))
	for f := range primes {
		sizes(4, func(height, cap int) {
			x := anyTree(r, f, height, cap)
			good := some(r, f, 1)[0]
			for _, i := range append(slices.Clone(noNumbers), 1<<height, 1<<height+1) {
				if i >= 0 && i < 1<<height {
					continue
				}
				path, e := Path(x, i)
				wantNoPath(t, "Path of no place", path, e, api.ErrRange)
				got, e := Replace(x, i, good)
				wantNoTree(t, "Replace at no place", got, e, api.ErrRange)
			}
			for i := range 1 << height {
				for _, leaf := range improper(f) {
					got, e := Replace(x, i, leaf)
					wantNoTree(t, "Replace by a leaf that is not proper", got, e, api.ErrRange)
				}
			}
			for _, y := range broken(r, x) {
				for _, i := range []int{0, -1, 1 << height, math.MaxInt} { // ErrArg comes first
					path, e := Path(y.tree, i)
					wantNoPath(t, "Path of "+y.name, path, e, api.ErrArg)
					for _, leaf := range []api.Digest{good, {most, most}} {
						got, e := Replace(y.tree, i, leaf)
						wantNoTree(t, "Replace in "+y.name, got, e, api.ErrArg)
					}
				}
			}
		})
	}
	path, e := Path(api.Tree{}, 0)
	wantNoPath(t, "Path of the zero tree", path, e, api.ErrArg)
	got, e := Replace(api.Tree{}, 0, api.Digest{})
	wantNoTree(t, "Replace in the zero tree", got, e, api.ErrArg)
}

// P7.3

func TestClimb(t *testing.T) {
	r := rand.New(rand.NewSource(79))
	for f := range primes {
		for n := range api.MaxHeight + 1 {
			for range 20 {
				leaf, path := some(r, f, 1)[0], some(r, f, n)
				for _, i := range []int{0, r.Intn(1 << n), 1<<n - 1, 1 << n, r.Int(), math.MaxInt, math.MaxInt - 1, 1 << 62} {
					want(t, "Climb", Climb(f, i, leaf, path), climbOf(f, i, leaf, path))
				}
			}
		}
	}
}

func TestClimbFromNoOpening(t *testing.T) {
	r := rand.New(rand.NewSource(80))
	nothing := api.Digest{}
	for f := range primes {
		for _, n := range []int{0, 1, 2, 5, api.MaxHeight} {
			leaf, path := api.Digest{1, 2}, some(r, f, n)
			for _, no := range noFields {
				want(t, "Climb in no field", Climb(no, 0, leaf, path), nothing)
			}
			for _, i := range []int{-1, -2, -1 << 18, math.MinInt} {
				want(t, "Climb from a negative place", Climb(f, i, leaf, path), nothing)
			}
			for _, d := range improper(f) {
				want(t, "Climb from a leaf that is not proper", Climb(f, 0, d, path), nothing)
				for j := range path {
					bad := slices.Clone(path)
					bad[j] = d
					want(t, "Climb along a digest that is not proper", Climb(f, 0, leaf, bad), nothing)
				}
			}
		}
		want(t, "Climb along a path that is too long", Climb(f, 0, api.Digest{1, 2}, some(r, f, api.MaxHeight+1)), nothing)
		want(t, "Climb along a path that is far too long", Climb(f, 0, api.Digest{1, 2}, some(r, f, 100)), nothing)
	}
}

// accepted returns an opening that a cap of 2^c digests accepts, without the program.
func accepted(r *rand.Rand, f, c, d int) (cap []api.Digest, i int, leaf api.Digest, path []api.Digest) {
	cap, i, leaf, path = some(r, f, 1<<c), r.Intn(1<<(c+d)), some(r, f, 1)[0], some(r, f, d)
	cap[i>>d] = climbOf(f, i, leaf, path)
	return cap, i, leaf, path
}

func TestCheck(t *testing.T) {
	r := rand.New(rand.NewSource(81))
	for f := range primes {
		for c := range 5 {
			for d := range 6 {
				cap, i, leaf, path := accepted(r, f, c, d)
				want(t, "Check", Check(f, cap, i, leaf, path), true)
				for other := range 1 << (c + d) {
					ends := climbOf(f, other, leaf, path) == cap[other>>d]
					want(t, "Check of any place", Check(f, cap, other, leaf, path), ends)
				}
				for _, x := range some(r, f, 20) {
					ends := climbOf(f, i, x, path) == cap[i>>d]
					want(t, "Check of another leaf", Check(f, cap, i, x, path), ends)
				}
				for j := range path {
					other := slices.Clone(path)
					other[j] = some(r, f, 1)[0]
					ends := climbOf(f, i, leaf, other) == cap[i>>d]
					want(t, "Check of another path", Check(f, cap, i, leaf, other), ends)
				}
				other := slices.Clone(cap)
				other[i>>d] = api.Digest{(cap[i>>d][0] + 1) % primes[f], cap[i>>d][1]}
				want(t, "Check for another cap", Check(f, other, i, leaf, path), false)
				other[i>>d] = api.Digest{cap[i>>d][0], (cap[i>>d][1] + 1) % primes[f]}
				want(t, "Check for another cap", Check(f, other, i, leaf, path), false)
			}
		}
	}
}

func TestCheckOfNoOpening(t *testing.T) {
	r := rand.New(rand.NewSource(82))
	for f := range primes {
		for c := range 4 {
			for d := range 4 {
				cap, i, leaf, path := accepted(r, f, c, d)
				for _, no := range noFields {
					want(t, "Check in no field", Check(no, cap, i, leaf, path), false)
				}
				for _, no := range []int{i - 1<<(c+d), i + 1<<(c+d), i + 1<<(c+d+1), i + 1<<40, i + 1<<62, i + math.MinInt, math.MinInt, math.MaxInt, -1} {
					want(t, "Check of a place that is none", Check(f, cap, no, leaf, path), false)
				}
				for n := range len(cap) + 9 {
					if n != len(cap) {
						longer := append(slices.Clone(cap), cap...)
						longer = append(append(longer, cap...), some(r, f, 9)...)
						ends := n > 0 && n&(n-1) == 0 && i>>d < n
						want(t, "Check for a cap of another length", Check(f, longer[:n], i, leaf, path), ends)
					}
				}
				for _, x := range improper(f) {
					want(t, "Check of a leaf that is not proper", Check(f, cap, i, x, path), false)
					bad := slices.Clone(cap)
					for j := range bad {
						bad[j] = x
						want(t, "Check for a digest of the cap that is not proper", Check(f, bad, i, leaf, path), false)
						bad[j] = cap[j]
					}
					bad = slices.Clone(path)
					for j := range bad {
						bad[j] = x
						want(t, "Check of a path that is not proper", Check(f, cap, i, leaf, bad), false)
						bad[j] = path[j]
					}
				}
			}
		}
	}
}

// TestCheckCountsModuloNothing: a digest that is a proper one only modulo P is another one.
func TestCheckCountsModuloNothing(t *testing.T) {
	r := rand.New(rand.NewSource(83))
	for f, p := range primes {
		cap, i, leaf, path := accepted(r, f, 1, 2)
		want(t, "Check", Check(f, cap, i, leaf, path), true)
		want(t, "Check of the leaf with P added", Check(f, cap, i, api.Digest{leaf[0] + p, leaf[1]}, path), false)
		path[1][1] += p
		want(t, "Check of a path with P added", Check(f, cap, i, leaf, path), false)
		path[1][1] -= p
		cap[i>>2][0] += p
		want(t, "Check for a cap with P added", Check(f, cap, i, leaf, path), false)
	}
}

func TestCheckOfTheLongestWays(t *testing.T) {
	r := rand.New(rand.NewSource(84))
	for f := range primes {
		for _, c := range []int{0, 1, 2, 9, api.MaxHeight - 1, api.MaxHeight} {
			cap, i, leaf, path := accepted(r, f, c, api.MaxHeight-c)
			want(t, "Check of a longest way", Check(f, cap, i, leaf, path), true)
			cap, i, leaf, path = accepted(r, f, c, api.MaxHeight-c+1)
			want(t, "Check of a way that is too long", Check(f, cap, i, leaf, path), false)
		}
		cap, i, leaf, path := accepted(r, f, api.MaxHeight+1, 0)
		want(t, "Check for a cap that is too long", Check(f, cap, i, leaf, path), false)
		want(t, "Check for no cap", Check(f, nil, 0, leaf, nil), false)
		want(t, "Check for an empty cap", Check(f, []api.Digest{}, 0, leaf, path), false)
	}
}

// P7.4

// clashOf returns what Clash has to find in proper openings of the same length, without the program.
func clashOf(f, i int, a, b api.Digest, p, q []api.Digest) (x, y pair, ok bool) {
	if climbOf(f, i, a, p) != climbOf(f, i, b, q) {
		return pair{}, pair{}, false
	}
	for j := len(p) - 1; j >= 0; j-- {
		x = pair{climbOf(f, i, a, p[:j]), p[j]}
		y = pair{climbOf(f, i, b, q[:j]), q[j]}
		if i>>j&1 == 1 {
			x, y = pair{x[1], x[0]}, pair{y[1], y[0]}
		}
		if x != y {
			return x, y, true
		}
	}
	return pair{}, pair{}, false
}

// wantClash reports a clash that is not the one that is wanted.
func wantClash(t *testing.T, what string, f, i int, a, b api.Digest, p, q []api.Digest, x, y pair, ok bool) {
	t.Helper()
	gotX, gotY, got := Clash(f, i, a, b, p, q)
	if gotX != x || gotY != y || got != ok {
		t.Errorf("Clash of %s, at the place %d, %v, %v, along %v, %v, is %v, %v, %v, not %v, %v, %v", what, i, a, b, p, q, gotX, gotY, got, x, y, ok)
	}
}

// meeting returns two openings of a place in the field 0 whose ways become the same above the digest j of their paths.
func meeting(r *rand.Rand, i, j, n int) (a, b api.Digest, p, q []api.Digest) {
	x, y := collision(uint64(r.Intn(1000)))
	common := some(r, 0, n-j-1)
	right := i >> j & 1
	// The digests at the ways' sides are proper; those on the ways must be reached from the leaves, so they are looked for.
	a, p = leading(r, i, j, x[right])
	b, q = leading(r, i, j, y[right])
	p, q = append(p, x[1-right]), append(q, y[1-right])
	return a, b, append(p, common...), append(q, common...)
}

// leading returns a leaf and a path of j digests that reach a digest of the field 0.
func leading(r *rand.Rand, i, j int, reached api.Digest) (leaf api.Digest, path []api.Digest) {
	if j == 0 {
		return reached, nil
	}
	for {
		leaf, path = some(r, 0, 1)[0], some(r, 0, j-1)
		below := climbOf(0, i, leaf, path)
		for k := range uint64(97 * 97) {
			beside := api.Digest{k % 97, k / 97}
			if climbOf(0, i>>(j-1), below, []api.Digest{beside}) == reached {
				return leaf, append(path, beside)
			}
		}
	}
}

func TestClash(t *testing.T) {
	r := rand.New(rand.NewSource(85))
	for n := 1; n <= 4; n++ {
		for j := range n {
			for i := range 1 << n {
				a, b, p, q := meeting(r, i, j, n)
				x, y, ok := clashOf(0, i, a, b, p, q)
				want(t, "whether the meeting ways clash", ok, true)
				wantClash(t, "meeting ways", 0, i, a, b, p, q, x, y, true)
				wantClash(t, "meeting ways, the other one first", 0, i, b, a, q, p, y, x, true)
				want(t, "whether the pairs differ", x != y, true)
				want(t, "the node of the second pair", nodeOf(0, y[0], y[1]), nodeOf(0, x[0], x[1]))
			}
		}
	}
}

// TestClashTwice: ways that meet, part again, and meet again clash at the upper meeting.
func TestClashTwice(t *testing.T) {
	r := rand.New(rand.NewSource(86))
	for i := range 4 {
		for range 3 {
			a, b, p, q := meeting(r, i, 0, 1)
			reached := climbOf(0, i, a, p)
			var x, y pair
			seen := map[api.Digest]api.Digest{}
			for k := uint64(0); ; k++ { // two digests beside the one that both ways have reached
				beside := api.Digest{k % 97, k / 97}
				end := climbOf(0, i>>1, reached, []api.Digest{beside})
				if other, is := seen[end]; is {
					x, y = pair{reached, beside}, pair{reached, other}
					break
				}
				seen[end] = beside
			}
			p, q = append(p, x[1]), append(q, y[1])
			if i>>1&1 == 1 {
				x, y = pair{x[1], x[0]}, pair{y[1], y[0]}
			}
			wantClash(t, "ways that meet twice", 0, i, a, b, p, q, x, y, true)
			wantClash(t, "ways that meet above equal ones", 0, i, a, a, append(p[:1:1], p[1]), append(p[:1:1], q[1]), x, y, true)
		}
	}
}

func TestClashOfAny(t *testing.T) {
	r := rand.New(rand.NewSource(87))
	for f := range primes {
		for n := range api.MaxHeight + 1 {
			for range 10 {
				i, a, p := r.Intn(1<<(n+2)), some(r, f, 1)[0], some(r, f, n)
				wantClash(t, "one opening", f, i, a, a, p, slices.Clone(p), pair{}, pair{}, false)
				b, q := some(r, f, 1)[0], some(r, f, n)
				x, y, ok := clashOf(f, i, a, b, p, q)
				wantClash(t, "two openings", f, i, a, b, p, q, x, y, ok)
			}
		}
	}
	wantClash(t, "leaves without paths", 0, 0, api.Digest{1, 2}, api.Digest{1, 3}, nil, nil, pair{}, pair{}, false)
	wantClash(t, "leaves without paths", 0, 0, api.Digest{1, 2}, api.Digest{1, 2}, nil, []api.Digest{}, pair{}, pair{}, false)
}

func TestClashOfNoOpenings(t *testing.T) {
	r := rand.New(rand.NewSource(88))
	no := func(what string, f, i int, a, b api.Digest, p, q []api.Digest) {
		wantClash(t, what, f, i, a, b, p, q, pair{}, pair{}, false)
		wantClash(t, what, f, i, b, a, q, p, pair{}, pair{}, false)
	}
	for _, j := range []int{0, 1, 2} {
		i := r.Intn(8)
		a, b, p, q := meeting(r, i, j, 3)
		for _, f := range noFields {
			no("openings in no field", f, i, a, b, p, q)
		}
		for _, negative := range []int{i - 8, i + math.MinInt, math.MinInt, -1} {
			no("openings of a negative place", 0, negative, a, b, p, q)
		}
		no("a longer path", 0, i, a, b, append(slices.Clone(p), api.Digest{}), q)
		no("a shorter path", 0, i, a, b, p[:2], q)
		for k := range 3 {
			for _, d := range improper(0) {
				bad := slices.Clone(p)
				bad[k] = d
				no("a path that is not proper", 0, i, a, b, bad, q)
				no("equal paths that are not proper", 0, i, a, a, bad, slices.Clone(bad))
			}
			bad := slices.Clone(p)
			bad[k][0] += 97
			no("a path that is equal modulo P", 0, i, a, a, p, bad)
		}
		for _, d := range improper(0) {
			no("a leaf that is not proper", 0, i, d, b, p, q)
			no("leaves that are not proper", 0, i, d, api.Digest{d[1], d[0]}, p, q)
		}
		no("a leaf that is equal modulo P", 0, i, a, api.Digest{a[0], a[1] + 97}, p, p)
	}
}

func TestClashOfTheLongestWays(t *testing.T) {
	r := rand.New(rand.NewSource(89))
	a, b, p, q := meeting(r, 0, 1, api.MaxHeight)
	x, y, _ := clashOf(0, 0, a, b, p, q)
	wantClash(t, "the longest ways", 0, 0, a, b, p, q, x, y, true)
	wantClash(t, "ways that are too long", 0, 0, a, b, append(p, api.Digest{}), append(q, api.Digest{}), pair{}, pair{}, false)
	// A place may be greater than the number of leaves: only its last bits say where the ways go.
	wantClash(t, "a great place", 0, 1<<62, a, b, p, q, x, y, true)
}
