package tests

import (
	"fmt"
	"sync"
	"testing"

	"loop.example/g01284/impl"
)

// coverMark returns the mark x, y of a cover.
func coverMark(x, y, wide, high int64) impl.Mark {
	return markOf(float32(2*y+1)/float32(4*high)-0.25, float32(2*x+1)/float32(2*wide)-0.5, 0)
}

func TestCoversFailForWrongArguments(t *testing.T) {
	at := vectorOf(2, -1, 0.5)
	cover := call{"CoverOf", impl.CoverOf, []any{aBall(), at, float32(0.7), float32(0.1), int64(3), int64(2)}}
	shared := call{"CoverShared", impl.CoverShared, []any{aBall(), at, float32(0.7), float32(0.1), int64(3), int64(2), int64(2)}}
	sides := append(wrongCounts(16), 0, 1<<32+1, 1<<62)
	for _, c := range []call{cover, shared} {
		c.wantFailingTypes(t)
		wantFailing(t, c.name, c.f, c.list, 4, sides)
		wantFailing(t, c.name, c.f, c.list, 5, sides)
	}
	wantFailing(t, "CoverShared", impl.CoverShared, shared.list, 6, append(wrongCounts(impl.MaxCrew), 0, 1<<32+1))
	share := []any{make([]bool, 6), int64(3), int64(2)}
	wantFailing(t, "CoverShare", impl.CoverShare, share, 0, [][]bool{nil, {}, make([]bool, 5), make([]bool, 7), make([]bool, 256)})
	wantFailing(t, "CoverShare", impl.CoverShare, share, 1, append(sides, 2, 4, 6))
	wantFailing(t, "CoverShare", impl.CoverShare, share, 2, append(sides, 1, 3))
	for _, row := range [][2]int64{{-3, -2}, {17, 1}, {1, 17}, {0, 0}, {32, 8}, {1 << 32, 1 << 32}} {
		want(t, fmt.Sprint("a cover of ", row), numberTold(impl.CoverShare(make([]bool, max(0, min(row[0]*row[1], 256))), row[0], row[1])), "fail")
	}
}

func TestCoverOf(t *testing.T) {
	var counts [2]int
	for i, b := range ordinaryBalls() {
		for _, place := range []impl.Vector{vectorOf(5, 0, 0), vectorOf(-1.1, 0.4, 0.7), vectorOf(0, 0, -3), vectorOf(0.2, 0.1, 0.3)} {
			at := impl.ScaleVector(place, b.Radius)
			for _, least := range []float32{0, -0.05, 0.1} {
				for wide := int64(1); wide <= 16; wide += 3 {
					for high := int64(1); high <= 16; high += 5 {
						what := fmt.Sprint("ball ", i, ", ", at, ", least ", least, ", marks ", wide, high)
						cover, ok := impl.CoverOf(b, at, 0.7, least, wide, high)
						want(t, what, ok && len(cover) == int(wide*high), true)
						for k, covered := range cover {
							rise, _ := impl.RiseAt(b, coverMark(int64(k)%wide, int64(k)/wide, wide, high), at, 0.7)
							want(t, fmt.Sprint(what, ", the mark ", k), covered, rise >= impl.SineTurns(least))
							counts[map[bool]int{false: 0, true: 1}[covered]]++
						}
					}
				}
			}
		}
	}
	want(t, "covered and not", counts[0] > 1000 && counts[1] > 1000, true)
}

func TestRowsOfCovers(t *testing.T) {
	b := ballOf(1, 1, 0, 0)
	want(t, "above the north pole", seenTold(impl.CoverOf(b, vectorOf(0, 0, 9), 0, 0, 3, 2)), "...xxx")
	want(t, "above the south pole", seenTold(impl.CoverOf(b, vectorOf(0, 0, -9), 0, 0, 3, 2)), "xxx...")
	want(t, "above the first mark of a row", seenTold(impl.CoverOf(b, vectorOf(-9, -1, 0), 0, 0.08, 4, 1)), "x..x")
	want(t, "above the middle of a row", seenTold(impl.CoverOf(b, vectorOf(9, 0, 0), 0, 0, 3, 1)), ".x.")
	want(t, "a turned ball", seenTold(impl.CoverOf(ballOf(1, 1, 0.25, 0.25), vectorOf(-9, 0, 0), 1, 0, 3, 1)), ".x.")
	want(t, "one mark", seenTold(impl.CoverOf(b, vectorOf(9, 0, 0), 0, 0, 1, 1)), "x")
	want(t, "just above it", seenTold(impl.CoverOf(b, vectorOf(2, 0, 0), 0, 0.25, 1, 1)), "x")
	want(t, "behind it", seenTold(impl.CoverOf(b, vectorOf(-9, 0, 0), 0, 0, 1, 1)), ".")
}

func TestAnyNumberOfWorkers(t *testing.T) {
	for i, c := range coverings() {
		told := seenTold(impl.CoverOf(c.ball, c.at, c.time, c.least, c.wide, c.high))
		for workers := int64(1); workers <= impl.MaxCrew; workers++ {
			what := fmt.Sprint("row ", i, ", workers ", workers)
			want(t, what, seenTold(impl.CoverShared(c.ball, c.at, c.time, c.least, c.wide, c.high, workers)), told)
		}
	}
	at := vectorOf(1.5, -1, 0.7)
	for wide := int64(1); wide <= 16; wide++ {
		for high := int64(1); high <= 16; high++ {
			told := seenTold(impl.CoverOf(aBall(), at, 0.7, 0.01, wide, high))
			want(t, fmt.Sprint("marks ", wide, high), len(told), int(wide*high))
			for workers := int64(1); workers <= impl.MaxCrew; workers++ {
				what := fmt.Sprint("marks ", wide, high, ", workers ", workers)
				want(t, what, seenTold(impl.CoverShared(aBall(), at, 0.7, 0.01, wide, high, workers)), told)
			}
		}
	}
}

// TestWorkersFailTogether has a place that is one of the marks, so that only
// one worker fails, and places from which all of them do.
func TestWorkersFailTogether(t *testing.T) {
	for y := range int64(3) {
		for x := range int64(4) {
			at, _ := impl.PlaceOf(aBall(), coverMark(x, y, 4, 3), 0.7)
			want(t, fmt.Sprint("the mark ", x, y), seenTold(impl.CoverOf(aBall(), at, 0.7, 0, 4, 3)), "fail")
			for workers := int64(1); workers <= impl.MaxCrew; workers++ {
				want(t, fmt.Sprint("the mark ", x, y, ", workers ", workers), seenTold(impl.CoverShared(aBall(), at, 0.7, 0, 4, 3, workers)), "fail")
			}
		}
	}
	small := ballOf(1, 1e-30, 0, 0)
	for workers := int64(1); workers <= impl.MaxCrew; workers++ {
		want(t, fmt.Sprint("all marks, workers ", workers), seenTold(impl.CoverShared(small, vectorOf(1, 0, 0), 0, 0, 16, 16, workers)), "fail")
		want(t, fmt.Sprint("one mark, workers ", workers), seenTold(impl.CoverShared(small, vectorOf(1, 0, 0), 0, 0, 1, 1, workers)), "fail")
	}
}

// wantAtTheSameTime wants many calls that run at the same time to tell the same.
func wantAtTheSameTime(t *testing.T, told string, tell func(i int) string) {
	t.Helper()
	results := make([]string, 200)
	var group sync.WaitGroup
	for i := range results {
		group.Add(1)
		go func() {
			defer group.Done()
			results[i] = tell(i)
		}()
	}
	group.Wait()
	for i, result := range results {
		want(t, fmt.Sprint("the call ", i), result, told)
	}
}

func TestManyCoversAtTheSameTime(t *testing.T) {
	at := vectorOf(1.5, -1, 0.7)
	wantAtTheSameTime(t, seenTold(impl.CoverOf(aBall(), at, 0.7, 0.01, 13, 11)), func(i int) string {
		return seenTold(impl.CoverShared(aBall(), at, 0.7, 0.01, 13, 11, int64(i%impl.MaxCrew+1)))
	})
}

func TestCoverShare(t *testing.T) {
	for wide := int64(1); wide <= 16; wide++ {
		for high := int64(1); high <= 16; high++ {
			for _, every := range []int{1, 2, 5, 1000} {
				cover := make([]bool, wide*high)
				covered, all := float32(0), float32(0)
				for k := range cover {
					cover[k] = k%every == every-1
					weight := impl.SineTurns(coverMark(int64(k)%wide, int64(k)/wide, wide, high).North + 0.25)
					all += weight
					if cover[k] {
						covered += weight
					}
				}
				what := fmt.Sprint("marks ", wide, high, ", every ", every)
				want(t, what, numberTold(impl.CoverShare(cover, wide, high)), numberText(covered/all))
				if every == 1 || every == 1000 {
					want(t, what, covered/all, map[int]float32{1: 1, 1000: 0}[every])
				}
			}
		}
	}
	north, ok := impl.CoverShare([]bool{false, false, false, true}, 1, 4)
	want(t, "near the north pole", ok && near(float64(north), 0.1464466, 1e-6), true)
	middle, ok := impl.CoverShare([]bool{false, true, false, false}, 1, 4)
	want(t, "near the middle", ok && near(float64(middle), 0.3535534, 1e-6), true)
}

// TestSharesOfCovers compares what is covered with the part of a ball that a
// place sees: half of (1 less the radius divided by the distance).
func TestSharesOfCovers(t *testing.T) {
	b := ballOf(1, 1, 0.3, 0.2)
	for _, distance := range []float32{2, 4, 100} {
		for _, way := range []impl.Vector{vectorOf(1, 0, 0), vectorOf(0, 0, -1), vectorOf(-0.6, 0.64, 0.48)} {
			cover, _ := impl.CoverOf(b, impl.ScaleVector(way, distance), 1.7, 0, 16, 16)
			share, ok := impl.CoverShare(cover, 16, 16)
			want(t, fmt.Sprint("the distance ", distance, ", ", way), ok && near(float64(share), 0.5-0.5/float64(distance), 0.03), true)
		}
	}
}
