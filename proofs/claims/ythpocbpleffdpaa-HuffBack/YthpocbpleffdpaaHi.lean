/- What is hidden from the walk. -/
import Derived.Test.YthpocbpleffdpaaGen
namespace Go.Proofs.Ythpocbpleffdpaa
open Go.RowKit
theorem hid {p : Prop} (h : p) : Hid p := h
end Go.Proofs.Ythpocbpleffdpaa
