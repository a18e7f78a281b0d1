package convert

import (
	"iter"

	"verdigris/api"
	"verdigris/cross"
)

func isSide(n int) bool {
	return n >= 1 && n <= api.MaxSide
}

// groups returns how many groups of a size a length is divided into.
func groups(length, size int) int {
	return (length + size - 1) / size
}

// regular yields the regular tiles of an image.
func regular(wide, high, first, second int) iter.Seq[api.Tile] {
	return func(yield func(api.Tile) bool) {
	yielding:
		for y := 0; y < high; y += second {
			for x := 0; x < wide; x += first {
				if !yield(api.Tile{X: x, Y: y, Wide: min(first, wide-x), High: min(second, high-y)}) {
					break yielding
				}
			}
		}
	}
}

// Tiles returns the regular tiles of an image, mixed if there is a seed.
func Tiles(wide, high, first, second, seed int) ([]api.Tile, api.Errno) {
	if !isSide(wide) || !isSide(high) || !isSide(first) || !isSide(second) || seed < 0 || seed > api.MaxSeed {
		return nil, api.ErrArg
	}
	if groups(wide, first)*groups(high, second) > api.MaxTiles {
		return nil, api.ErrLong
	}
	var out []api.Tile
	for tile := range regular(wide, high, first, second) {
		out = append(out, tile)
	}
	if seed == 0 {
		return out, api.OK
	}
	for i := len(out) - 1; i > 0; i-- {
		k, next, e := cross.Draw(seed, i+1)
		if e != api.OK {
			return nil, e
		}
		out[i], out[k] = out[k], out[i]
		seed = next
	}
	return out, api.OK
}

// Covers returns ErrTiles if a list of tiles does not cover an image.
func Covers(l []api.Tile, wide, high int) api.Errno {
	if !isSide(wide) || !isSide(high) {
		return api.ErrArg
	}
	if len(l) > api.MaxTiles {
		return api.ErrLong
	}
	var counts [api.MaxSide][api.MaxSide]int
	for _, tile := range l {
		if !lies(tile, wide, high) {
			return api.ErrTiles
		}
		for y := range tile.High {
			for x := range tile.Wide {
				counts[tile.Y+y][tile.X+x]++
			}
		}
	}
	for y := range high {
		for x := range wide {
			if counts[y][x] != 1 {
				return api.ErrTiles
			}
		}
	}
	return api.OK
}

// lies reports whether a tile lies within an image.
func lies(tile api.Tile, wide, high int) bool {
	return tile.Wide >= 1 && tile.High >= 1 && tile.X >= 0 && tile.Y >= 0 && tile.X < wide && tile.Y < high && tile.Wide <= wide-tile.X && tile.High <= high-tile.Y
}
