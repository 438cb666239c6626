package ship_test

import (
	"slices"
	"testing"

	"stereobate/api"
	"stereobate/ship"
)

// tears: so many loose sectors, each of them torn in its turn, while the others are lost, or kept.
func tears(loose int) [][]int {
	l := [][]int{nil, slices.Repeat([]int{64}, loose)}
	step := 1
	if loose > 2 {
		step = 21
	}
	for which := range loose {
		for _, others := range []int{0, 64} {
			for at := 0; at <= 64; at += step {
				cuts := slices.Repeat([]int{others}, loose)
				cuts[which] = at
				l = append(l, cuts)
			}
		}
	}
	return l
}

// P22.3, P4: wherever the power is cut within an Import, and whatever is torn: behind Mount the volume is as it was,
// or as the stream makes it; all others are as they were; the Import may be asked again.
func TestImportCut(t *testing.T) {
	b := newBox(t, 120, 256)
	x := some(noise(1), 30)
	y := patched(patched(x, 0, noughts(256)), 9, some(noise(2), 14))
	id := b.holding(x)
	b.clone(id)
	b.snapshot(id)
	b.works(b.a.Checkpoint())
	b.write(2, 5, of("w", 3))
	other := b.read(2)
	b.works(b.a.Flush())
	text := between(x, y)
	ended := map[string]int{}
	n := 0
	for ; ; n++ {
		c := over(t, b.d.Clone())
		c.d.Arm(n)
		e := ship.Import(c.a, id, text)
		if e == api.OK {
			break
		}
		if e != api.ErrCut || !c.a.Dead() {
			t.Fatalf("Import with %d calls: %d", n, e)
		}
		for _, cuts := range tears(len(c.d.Loose())) {
			m := c.again(cuts...)
			now := m.read(id)
			if now != x && now != y {
				t.Fatalf("%d calls, %v: neither", n, cuts)
			}
			if m.read(2) != other || m.read(3) != x {
				t.Fatalf("%d calls, %v: another volume has other bytes", n, cuts)
			}
			ended[now]++
			if len(cuts) > 0 && cuts[0] != 21 {
				continue
			}
			if now == x {
				m.imports("once more", id, text, y)
			} else {
				m.keeps("once more", id, text, api.ErrBase)
			}
		}
	}
	if n < 25 || ended[x] < 100 || ended[y] < 2 {
		t.Errorf("%d calls; as it was %d times, as it is %d times", n, ended[x], ended[y])
	}
}

// P22.3: likewise, where ops ahead of it weren't flushed: these are lost, or there, and it with all of them alone.
func TestImportCutBehindLoose(t *testing.T) {
	b := newBox(t, 120, 256)
	x := some(noise(1), 12)
	id := b.holding(x)
	b.works(b.a.Checkpoint())
	texts := []string{x}
	for i := range 3 {
		b.write(id, 3*i, of(string(rune('p'+i)), 2))
		texts = append(texts, b.read(id))
	}
	y := patched(texts[3], 4, noughts(256))
	text, seen := between(texts[3], y), map[string]int{}
	texts = append(texts, y)
	// Mount makes sure of what it finds: so the ops are done again, behind it, each time.
	for n := 0; ; n++ {
		c := b.again()
		for i := range 3 {
			c.write(id, 3*i, of(string(rune('p'+i)), 2))
		}
		c.d.Arm(n)
		e := ship.Import(c.a, id, text)
		if e == api.OK {
			break
		}
		if e != api.ErrCut {
			t.Fatalf("Import with %d calls: %d", n, e)
		}
		for _, cuts := range tears(len(c.d.Loose())) {
			now := c.again(cuts...).read(id)
			if !slices.Contains(texts, now) {
				t.Fatalf("%d calls, %v: none of them", n, cuts)
			}
			seen[now]++
		}
	}
	for i, s := range texts {
		if seen[s] == 0 {
			t.Errorf("as behind %d ops: never", i)
		}
	}
}

// P22.3: an Import of the greatest difference that there is room for, cut here and there.
func TestImportCutMuch(t *testing.T) {
	b := newBox(t, 900, 256)
	x, y := some(noise(1), 200), some(noise(2), 200)
	id := b.holding(noughts(200 * 64))
	b.imports("of nothing", id, between(noughts(200*64), x), x)
	text := between(x, y)
	for n := 0; n < 400; n += 13 {
		c := over(t, b.d.Clone())
		c.d.Arm(n)
		e := ship.Import(c.a, id, text)
		if e == api.OK {
			c.again().has("all of it", id, y)
			continue
		}
		for _, cuts := range [][]int{nil, whole(c.d), {33}, {64, 64, 7}} {
			m := c.again(cuts...)
			if e != api.ErrCut || m.read(id) != x {
				t.Fatalf("Import with %d calls: %d", n, e)
			}
		}
		m := c.again()
		m.imports("once more", id, text, y)
	}
}
