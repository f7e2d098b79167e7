package shadow

import (
	"maps"
	"math/rand"
	"testing"

	"horologe/api"
	"horologe/disk"
)

// P14.6

// kept is what a store has: its epoch, and what each logical page says.
type kept struct {
	epoch int
	says  map[int]string
}

func keptBy(t *testing.T, s *Store) kept {
	t.Helper()
	k := kept{epoch: s.Epoch(), says: map[int]string{}}
	for _, l := range s.Pages() {
		p, e := s.Read(l)
		if e != api.OK {
			t.Fatal("Read", l, int(e))
		}
		k.says[l] = p
	}
	return k
}

func (k kept) same(other kept) bool { return k.epoch == other.epoch && maps.Equal(k.says, other.says) }

// act is what is done with a store: "new", "write", "drop", "commit", "abort".
type act struct {
	kind    string
	l       int
	payload string
}

func (a act) do(s *Store) api.Errno {
	switch a.kind {
	case "new":
		_, e := s.New(a.payload)
		return e
	case "write":
		return s.Write(a.l, a.payload)
	case "drop":
		return s.Drop(a.l)
	case "abort":
		s.Abort()
		return api.OK
	}
	return s.Commit()
}

// scene is what is on a disk, all of it safe, and what is done then.
type scene struct {
	name, image string
	acts        []act
}

// run does a scene's acts on a disk that goes down at the n-th call (0: it does not): what the last commit has that answered OK, what one that is going on would have, and whether all is done.
func (x scene) run(t *testing.T, n int) (d *disk.Disk, last, going kept, done bool) {
	t.Helper()
	d = of(t, x.image)
	s := open(t, d)
	last = keptBy(t, s)
	going = last
	if n > 0 {
		arm(t, d, n)
	}
	for _, a := range x.acts {
		if a.kind == "commit" {
			going = keptBy(t, s)
			going.epoch++
		}
		e := a.do(s)
		if e == api.ErrDown {
			return d, last, going, false
		}
		if e != api.OK {
			t.Fatal(x.name, a, int(e))
		}
		last = going
	}
	return d, last, going, true
}

// usedImage is a disk of nine physical pages, of which some were committed several times, some left again.
func usedImage(t *testing.T) string {
	t.Helper()
	d, s := begun(t, 9)
	makes(t, s, text(232, 1), 0)
	makes(t, s, text(232, 2), 1)
	commits(t, s, api.OK)
	writes(t, s, 1, text(232, 3), api.OK)
	makes(t, s, text(100, 4), 2)
	commits(t, s, api.OK)
	writes(t, s, 0, text(200, 5), api.OK)
	commits(t, s, api.OK)
	return image(t, d)
}

func emptyImage(t *testing.T) string {
	t.Helper()
	d, s := begun(t, 1)
	commits(t, s, api.OK)
	return image(t, d)
}

func scenes(t *testing.T) []scene {
	t.Helper()
	used, empty := usedImage(t), emptyImage(t)
	commit := act{kind: "commit"}
	return []scene{
		{"nothing new", used, []act{commit}},
		{"no pages", empty, []act{commit, commit}},
		{"all dropped", used, []act{{kind: "drop", l: 0}, {kind: "drop", l: 1}, {kind: "drop", l: 2}, commit}},
		{"written", used, []act{{kind: "write", l: 1, payload: text(232, 50)}, commit}},
		{"made", used, []act{{kind: "new", payload: text(232, 51)}, commit}},
		{"written twice", used, []act{{kind: "write", l: 0, payload: text(232, 52)}, {kind: "write", l: 0, payload: text(232, 53)}, commit}},
		{"taken behind a commit", used, []act{{kind: "drop", l: 2}, commit, {kind: "new", payload: text(232, 54)}, commit}},
		{"taken behind an abort", used, []act{{kind: "drop", l: 1}, {kind: "new", payload: text(232, 55)}, {kind: "abort"}, {kind: "write", l: 1, payload: text(9, 56)}, commit}},
	}
}

// crashes hands over crashes of so many loose sectors: each set of those that are kept, and for each of them each sector torn; some sets, if there are many.
func crashes(r *rand.Rand, loose int, f func(c api.Crash)) {
	for set := range 1 << min(loose, 8) {
		keep := make([]bool, loose)
		for i := range keep {
			keep[i] = set>>i&1 == 1
			if loose > 8 {
				keep[i] = r.Intn(4) < set%5
			}
		}
		f(api.Crash{Keep: keep, Torn: -1})
		for torn := range loose {
			// A torn sector is torn whether it is kept or not: each set needs it once.
			if keep[torn] {
				f(api.Crash{Keep: keep, Torn: torn, Bytes: 1 + r.Intn(63)})
			}
		}
	}
	if loose > 0 && loose < 3 {
		for bytes := range 65 {
			f(api.Crash{Torn: loose - 1, Bytes: bytes})
		}
	}
}

// crashesAt lets a scene's disk go down at the n-th call, and crash in many ways then: how often the last commit's pages were found, and how often those of the one that was going on.
func (x scene) crashesAt(t *testing.T, r *rand.Rand, n int) (int, int) {
	t.Helper()
	older, newer := 0, 0
	d, last, going, _ := x.run(t, n)
	crashes(r, d.Loose(), func(c api.Crash) {
		d, _, _, _ := x.run(t, n)
		crash(t, d, c)
		s, e := Open(d)
		if e != api.OK {
			t.Fatal("call", n, c, "error", int(e))
		}
		switch k := keptBy(t, s); {
		case k.same(last):
			older++
		case k.same(going):
			newer++
		default:
			t.Fatal("call", n, c, "neither the last commit's nor the one's that was going on: epoch", k.epoch)
		}
		if r.Intn(10) == 0 {
			goesOn(t, d)
		}
	})
	return older, newer
}

// TestCrashes goes down at each call of each scene, and crashes in many ways then.
func TestCrashes(t *testing.T) {
	for _, x := range scenes(t) {
		t.Run(x.name, func(t *testing.T) {
			r := rand.New(rand.NewSource(17))
			olders, newers, n := 0, 0, 1
			for ; ; n++ {
				if _, _, _, done := x.run(t, n); done {
					break
				}
				older, newer := x.crashesAt(t, r, n)
				olders, newers = olders+older, newers+newer
			}
			d, last, _, _ := x.run(t, 0)
			if olders == 0 || newers == 0 || n != d.Calls()+1 || !keptBy(t, open(t, d)).same(last) {
				t.Error(olders, newers, n, d.Calls())
			}
		})
	}
}

// TestCrashesOfTwoParts does so with a table of two parts, in fewer ways.
func TestCrashesOfTwoParts(t *testing.T) {
	d, s := begun(t, 123)
	for l := range 117 {
		makes(t, s, text(l, l), l)
	}
	commits(t, s, api.OK)
	x := scene{image: image(t, d), acts: []act{{kind: "write", l: 116, payload: "new"}, {kind: "commit"}}}
	r := rand.New(rand.NewSource(18))
	olders, newers := 0, 0
	for n := 1; n <= 15; n++ {
		_, last, going, done := x.run(t, n)
		if done {
			t.Fatal(n)
		}
		for i := range 12 {
			d, _, _, _ := x.run(t, n)
			keep := make([]bool, d.Loose())
			for j := range keep {
				keep[j] = r.Intn(12) < i
			}
			crash(t, d, api.Crash{Keep: keep, Torn: r.Intn(d.Loose()+1) - 1, Bytes: r.Intn(65)})
			switch k := keptBy(t, open(t, d)); {
			case k.same(last):
				olders++
			case k.same(going):
				newers++
			default:
				t.Fatal("call", n, keep)
			}
		}
	}
	if olders == 0 || newers == 0 {
		t.Error(olders, newers)
	}
}

// TestCrashWithoutDown: a disk may crash though it did not go down; what was not committed is lost, if nothing is kept.
func TestCrashWithoutDown(t *testing.T) {
	for _, c := range []api.Crash{nothing(), everything(), {Torn: 0, Bytes: 9}} {
		d := of(t, usedImage(t))
		s := open(t, d)
		want := keptBy(t, s)
		makes(t, s, "x", 3)
		writes(t, s, 0, "y", api.OK)
		drops(t, s, 2, api.OK)
		crash(t, d, c)
		if s := open(t, d); !keptBy(t, s).same(want) {
			t.Error(c)
		}
		s = open(t, d)
		commits(t, s, api.OK)
		crash(t, d, c)
		want.epoch++
		if s := open(t, d); !keptBy(t, s).same(want) {
			t.Error(c, "behind a commit")
		}
	}
}

// ongoing is a disk, a store on it, and what it has to be, on through crashes.
type ongoing struct {
	r    *rand.Rand
	d    *disk.Disk
	s    *Store
	w    *twin
	left int
}

// cost is how many calls of the disk an act makes, if the disk is up.
func (g *ongoing) cost(kind int) int {
	if kind == 10 {
		return 4*g.w.need() + 3
	}
	if kind < 6 {
		return 4
	}
	return 0
}

// crash lets all crash, and opens what is left; whoever was going to commit has done so, or has not.
func (g *ongoing) crash(t *testing.T, would *twin) {
	t.Helper()
	keep := make([]bool, g.r.Intn(g.d.Loose()+1))
	often := g.r.Intn(5)
	for i := range keep {
		keep[i] = g.r.Intn(4) < often
	}
	crash(t, g.d, api.Crash{Keep: keep, Torn: g.r.Intn(g.d.Loose()+1) - 1, Bytes: g.r.Intn(65)})
	g.s, g.w, g.left = open(t, g.d), g.w.opened(), 0
	if would != nil && g.s.Epoch() == would.epoch {
		g.w = would
	}
	g.w.holds(t, g.d, g.s)
}

// step does one act, which ends in a crash, if the disk goes down at it.
func (g *ongoing) step(t *testing.T) {
	t.Helper()
	kind := g.r.Intn(11)
	ahead := g.w.clone()
	var would *twin
	if kind == 10 {
		would = g.w.clone()
		if would.commit() != api.OK {
			would = nil
		}
	}
	if g.left == 0 || g.cost(kind) < g.left {
		calls := g.d.Calls()
		step(t, g.r, g.s, g.w, kind)
		if g.left > 0 {
			g.left -= g.d.Calls() - calls
		}
		g.w.holds(t, g.d, g.s)
		return
	}
	l, payload := g.w.somewhere(g.r), randomPayload(g.r)
	e, f := api.OK, api.OK
	switch {
	case kind < 3:
		_, f = g.w.makes(payload)
		_, e = g.s.New(payload)
	case kind < 6:
		f = g.w.write(l, payload)
		e = g.s.Write(l, payload)
	default:
		f = g.w.commit()
		e = g.s.Commit()
	}
	g.w = ahead
	if f != api.OK {
		if e != f {
			t.Errorf("act %d: error %d, not %d", kind, int(e), int(f))
		}
		g.w.holds(t, g.d, g.s)
		return
	}
	if e != api.ErrDown {
		t.Errorf("act %d: error %d, not ErrDown", kind, int(e))
	}
	looks(t, g.s, g.w.epoch, g.w.pages(), g.w.reach())
	eachOnce(t, g.s, g.w.many)
	if g.r.Intn(2) == 0 {
		aborts(t, g.s)
		g.w.abort()
		g.w.shows(t, g.s)
	}
	g.crash(t, would)
}

// TestOnThroughCrashes: many acts, with a crash now and then, at any call, one behind the other on the same disk.
func TestOnThroughCrashes(t *testing.T) {
	for seed := range int64(60) {
		r := rand.New(rand.NewSource(1000 + seed))
		many := 3 + r.Intn(10)
		d, s := begun(t, many)
		g := &ongoing{r: r, d: d, s: s, w: newTwin(many)}
		for i := range 250 {
			if g.left == 0 && r.Intn(6) == 0 {
				g.left = 1 + r.Intn(25)
				arm(t, d, g.left)
			}
			g.step(t)
			if g.left == 0 && r.Intn(30) == 0 {
				g.crash(t, nil)
			}
			if t.Failed() {
				t.Fatal("seed", seed, "act", i)
			}
		}
	}
}
