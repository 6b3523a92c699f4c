import Derived.Below
namespace Go.Proofs.Ytkfejeomfdhmdaa
open Go.RowKit
theorem hid {p : Prop} (h : p) : Hid p := h
end Go.Proofs.Ytkfejeomfdhmdaa
