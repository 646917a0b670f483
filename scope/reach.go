package scope

import (
	"slices"

	"phrasebook/api"
	"phrasebook/schema"
)

// firstPaths returns the first paths to the messages of a valid definition that are reached.
func firstPaths(d api.Definition) map[int][]int {
	start, _ := schema.Find(d, d.Start)
	paths := map[int][]int{start: {start}}
	// Paths are lengthened in their order, by targets in theirs, so that the one found first is the first path.
search:
	for queue := []int{start}; len(queue) > 0; queue = queue[1:] {
		path := slices.Clip(paths[queue[0]])
		for _, next := range targets(d, queue[0]) {
			if _, known := paths[next]; known {
				continue
			}
			paths[next] = append(path, next)
			queue = append(queue, next)
			if len(paths) == len(d.Messages) {
				break search
			}
		}
	}
	return paths
}

// targets returns the messages to which a message refers, in increasing order.
func targets(d api.Definition, message int) []int {
	var l []int
	for name := range schema.Refers(d.Messages[message]) {
		i, _ := schema.Find(d, name)
		l = append(l, i)
	}
	slices.Sort(l)
	return l
}
