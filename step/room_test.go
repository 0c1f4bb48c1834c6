package step_test

// whole answers a list with the room behind it. It stands in a file of its own,
// as where package cap is imported the language's cap is hidden.
func whole(list []uint32) []uint32 { return list[:cap(list)] }
