/- WALKS OF LAYER 1, FOURTH PART: the reference's Get, numf.Exact, and what each law asks besides (alive). -/
import Derived.Test.YtjhigkkkfkahdaaGreatDoorW3
namespace Go.Proofs.YtjhigkkkfkahdaaGreatDoor
open Go.RowKit
set_option maxHeartbeats 800000
set_option maxRecDepth 20000
/- THE REFERENCE THAT READS A FIELD. -/
set_option maxHeartbeats 1600000
theorem al_1 : Nf.putS 8 8 = ([48, 48, 48, 48, 48, 49, 48, 0], 0) := by decide
theorem al_2 : Nf.getS [48, 48, 48, 48, 48, 49, 48, 0] = (8, 0) := by decide
theorem al_3 : Nf.putS (-1) 8 = ([255, 255, 255, 255, 255, 255, 255, 255], 0) := by decide
theorem al_4 : Nf.exactS [255, 255, 255, 255, 255, 255, 255, 255] = true := by decide
theorem al_5 : Nf.most 2 = 63 := by decide
theorem al_6 : strOfNums [48, 48, 48, 48, 48, 49, 48, 0] = ⟨#[48, 48, 48, 48, 48, 49, 48, 0]⟩ := by decide
theorem al_b1 : Byt [48, 48, 48, 48, 48, 49, 48, 0] := by have := Nf.byt_putS 8 8; rwa [al_1] at this
theorem al_b3 : Byt [255, 255, 255, 255, 255, 255, 255, 255] := by have := Nf.byt_putS (-1) 8; rwa [al_3] at this
end Go.Proofs.YtjhigkkkfkahdaaGreatDoor
