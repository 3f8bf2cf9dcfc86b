/- A TREE AND A DEED; a disk forgets its history. -/
import Derived.Test.YtbianfjennnofaaGreatDoorN14e
import Derived.Test.YtbianfjennnofaaGreatDoorGy1
import Derived.Test.YtbianfjennnofaaGreatDoorGa14
namespace Go.Proofs.YtbianfjennnofaaGreatDoor
set_option linter.unusedVariables false
open Go Go.RowKit Go.Maps
set_option maxRecDepth 100000
set_option maxHeartbeats 1000000
open Nt (Tr Nd WF Ps Path at_ cnt used Dd Dk ap)
theorem DkO.plain {w0 w : World} {db K : Nat} {M : Dk} {O : Nat → Prop} (h : DkO w0 w db M K O) : DkR (Bs.of w0) w db M K := by
  obtain ⟨⟨dt, vt, v, l, ad, mb, ad', mb', hm, hL⟩, hO⟩ := h
  exact ⟨dt, vt, v, l, ad, mb, ad', mb', ⟨hm.low, hm.box, hm.dlow, hm.repD, hm.repV, hm.lowD, hm.lowV, hm.apart, hm.row, hm.data, Keep.ofBelow hm.low, fun k hk => .inr (hm.owns k hk).1⟩, hL⟩
theorem Two.low {w0 w : World} {d c : Nat} {Md Mc : Dk} {Kd Kc : Nat} (h : Two w0 w d c Md Mc Kd Kc) : Below w0.heap.size w0 w := let ⟨_, _, h, _, _⟩ := h; h.1.low
theorem Two.first {w0 w : World} {d c : Nat} {Md Mc : Dk} {Kd Kc : Nat} (h : Two w0 w d c Md Mc Kd Kc) : DkR (Bs.of w0) w d Md Kd := let ⟨_, _, h, _, _⟩ := h; h.plain
theorem At.er {w0 w : World} {tb K : Nat} {T : Tr} (h : At w0 w tb T K) : At w0 w tb T.er K :=
  let ⟨F, ad, mb, hF, hR⟩ := h.rep
  ⟨h.wf.er, h.low, F, ad, mb, hF, hR.er⟩
theorem at_apply14 {w0 w : World} {tb K : Nat} {T : Tr} (h : At w0 w tb T K) (hK : K ≤ 90000) (hT : T.er = T) (y : Dd) (hy : DOk w y) :
    Calls Tryz.prog 37 #[.pointer (some ⟨tb, 0, none⟩), .agg (DdC y)] w fun e w' => e = .returned (.int .i64 (ap T y.er).2) ∧ At w0 w' tb (ap T y.er).1 (K + 301) ∧ KeepX TreeObj w w' := by
  obtain ⟨F, ad, mb, hF, hR⟩ := h.rep
  refine (apply_done h.wf (by omega) hR.min y (by have := hy.small; omega) (by have := hy.small; omega) hy.rb (by have := hy.small; omega)).mono ?_
  intro e w' hd
  have hx : KeepX TreeObj w w' := by
    obtain ⟨_, _, hk⟩ := hd
    exact KeepX.ofKeep hk fun k hk2 => hR.min.sort hk2
  obtain ⟨rfl, ha⟩ := h.of_done (fun k hk => hF k (hR.fm hk)) (h.wf.ap y hy.rb.1) hd
  have he := ap_erT (y := y) hT
  refine ⟨by rw [he.2], ?_, hx⟩
  rw [← he.1]
  exact ha.er
theorem refdeed_disk {cs : Array Value} {fz : Nat × Nat} : ¬ DiskObj (.cells cs 60 fz) := by
  rintro ((⟨_, _, h⟩ | ⟨_, _, _, h, h1 | h1⟩) | ⟨_, _, _, h, h1 | h1⟩)
  · cases h
  · cases h; cases h1
  · cases h; cases h1
  · cases h; cases h1
  · cases h; cases h1
end Go.Proofs.YtbianfjennnofaaGreatDoor
