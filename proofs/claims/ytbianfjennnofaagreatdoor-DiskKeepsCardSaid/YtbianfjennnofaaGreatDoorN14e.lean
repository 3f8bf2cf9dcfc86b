/- TWO DISKS SIDE BY SIDE. -/
import Derived.Test.YtbianfjennnofaaGreatDoorG14k
namespace Go.Proofs.YtbianfjennnofaaGreatDoor
set_option linter.unusedVariables false
open Go Go.RowKit Go.Maps
set_option maxRecDepth 100000
set_option maxHeartbeats 1000000
open Nt (Tr Nd WF Ps Path at_ cnt used Dd Dk ap)
theorem deed_disk {cs : Array Value} {fz : Nat × Nat} : DiskObj (.cells cs 74 fz) := deed_obj
section
variable {b : Bs} {w w' : World} {db K : Nat} {M : Dk}
/-- All that is the disk's own is in O. -/
def DkO (w0 w : World) (db : Nat) (M : Dk) (K : Nat) (O : Nat → Prop) : Prop :=
  DkR ⟨w0, w, O⟩ w db M K ∧ ∀ k, O k → w0.heap.size ≤ k ∧ k < w.heap.size
theorem DM.owns {dt vt : Nat} {D V : Tr} {v : Value} {l : List Dd} {sy fu : Int} {ad mb ad' mb' : Nat → Nat} (h : DM b w db dt vt D V v l sy fu K ad mb ad' mb') :
    ∀ k, (k = db ∨ Fm D dt ad mb k ∨ Fm V vt ad' mb' k ∨ v.ownBlock = some k) → b.w0.heap.size ≤ k ∧ k < w.heap.size := by
  rintro k (rfl | h1 | h1 | h1)
  · exact ⟨h.dlow, h.box.lt⟩
  · exact ⟨h.lowD k h1, h.repD.lt h1⟩
  · exact ⟨h.lowV k h1, h.repV.lt h1⟩
  · exact World.ownsRow.lt h.row k h1
theorem DkR.dko (h : DkR b w db M K) : ∃ O, DkO b.w0 w db M K O ∧ ∀ k, O k → b.O k ∨ b.wS.heap.size ≤ k := by
  obtain ⟨dt, vt, v, l, ad, mb, ad', mb', hm, hL⟩ := h
  refine ⟨fun k => k = db ∨ Fm M.D dt ad mb k ∨ Fm M.V vt ad' mb' k ∨ v.ownBlock = some k, ⟨⟨dt, vt, v, l, ad, mb, ad', mb', ⟨hm.low, hm.box, hm.dlow, hm.repD, hm.repV, hm.lowD, hm.lowV, hm.apart, hm.row, hm.data, Keep.refl _ _, fun k hk => .inl hk⟩, hL⟩, hm.owns⟩, hm.own⟩
theorem DkR.since (h : DkR b w db M K) : Keep b.O b.wS w := let ⟨_, _, _, _, _, _, _, _, h, _⟩ := h; h.since
/-- What is done to another disk leaves this as it was. -/
theorem DkO.beside {w0 : World} {O P : Nat → Prop} (h : DkO w0 w db M K O) (hk : Keep P w w') (hx : KeepX DiskObj w w') (hd : ∀ k, O k → ¬ P k) (hP : ∀ k, P k → w0.heap.size ≤ k) : DkO w0 w' db M K O := by
  obtain ⟨⟨dt, vt, v, l, ad, mb, ad', mb', hm, hL⟩, hO⟩ := h
  have hl := hm.owns
  have ho : ∀ k, (k = db ∨ Fm M.D dt ad mb k ∨ Fm M.V vt ad' mb' k ∨ v.ownBlock = some k) → O k := fun k hk2 => (hm.own k hk2).elim id fun e => by
    have e : w.heap.size ≤ k := e
    have := (hl k hk2).2
    omega
  have hs : ∀ k, (k = db ∨ Fm M.D dt ad mb k ∨ Fm M.V vt ad' mb' k ∨ v.ownBlock = some k) → w'.heap[k]? = w.heap[k]? := fun k hk2 => hk.block k (hl k hk2).2 (hd k (ho k hk2))
  refine ⟨⟨dt, vt, v, l, ad, mb, ad', mb', ⟨?_, (hs db (.inl rfl)).trans hm.box, hm.dlow, hm.repD.kept fun k hF _ => hs k (.inr (.inl hF)), hm.repV.kept fun k hF _ => hs k (.inr (.inr (.inl hF))), hm.lowD, hm.lowV, hm.apart, own_keep13 hm.row fun k hk2 => hs k (.inr (.inr (.inr hk2))), fun y hy => (hm.data y hy).keptX hx disk_u8, Keep.refl _ _, fun k hk2 => .inl (ho k hk2)⟩, hL⟩, fun k hk2 => ⟨(hO k hk2).1, Nat.lt_of_lt_of_le (hO k hk2).2 hk.size⟩⟩
  exact hm.low.trans (hk.below hP hm.low.size)
/-- TWO DISKS d AND c, BUILT SINCE w0. -/
def Two (w0 w : World) (d c : Nat) (Md Mc : Dk) (Kd Kc : Nat) : Prop := ∃ O P, DkO w0 w d Md Kd O ∧ DkO w0 w c Mc Kc P ∧ ∀ k, O k → ¬ P k
theorem Two.swap {w0 w : World} {d c : Nat} {Md Mc : Dk} {Kd Kc : Nat} (h : Two w0 w d c Md Mc Kd Kc) : Two w0 w c d Mc Md Kc Kd :=
  let ⟨O, P, h1, h2, h3⟩ := h
  ⟨P, O, h2, h1, fun k hp ho => h3 k ho hp⟩
theorem Two.later {w0 w w' : World} {d c : Nat} {Md Mc : Dk} {Kd Kc : Nat} (h : Two w0 w d c Md Mc Kd Kc) (hb : Below w.heap.size w w') : Two w0 w' d c Md Mc Kd Kc := by
  obtain ⟨O, P, h1, h2, h3⟩ := h
  have hk : Keep (fun _ => False) w w' := Keep.ofBelow hb
  have hx : KeepX DiskObj w w' := KeepX.ofBelow hb
  exact ⟨O, P, h1.beside hk hx (fun _ _ e => e) (fun _ e => e.elim), h2.beside hk hx (fun _ _ e => e) (fun _ e => e.elim), h3⟩
/-- A call at the first is done. -/
theorem Two.call {w0 w w' : World} {d c : Nat} {Md Mc Md' : Dk} {Kd Kc Kd' : Nat} {O P : Nat → Prop} (h1 : DkO w0 w d Md Kd O) (h2 : DkO w0 w c Mc Kc P) (h3 : ∀ k, O k → ¬ P k) (hr : DkR ⟨w0, w, O⟩ w' d Md' Kd') (hx : KeepX DiskObj w w') : Two w0 w' d c Md' Mc Kd' Kc := by
  obtain ⟨O', ho, hO⟩ := hr.dko
  have hk : Keep O w w' := hr.since
  refine ⟨O', P, ho, h2.beside hk hx (fun k hp ho => h3 k ho hp) (fun k ho => (h1.2 k ho).1), fun k hk2 hp => ?_⟩
  rcases hO k hk2 with e | e
  · exact h3 k e hp
  · have e : w.heap.size ≤ k := e
    have := (h2.2 k hp).2
    omega
theorem Two.new {w0 w1 w2 : World} {d c : Nat} {Md Mc : Dk} {Kd Kc : Nat} (h1 : DkR (Bs.of w0) w1 d Md Kd) (h2 : DkR (Bs.of w1) w2 c Mc Kc) : Two w0 w2 d c Md Mc Kd Kc := by
  have hb : Below w1.heap.size w1 w2 := h2.low
  have hb1 : Below w0.heap.size w0 w1 := h1.low
  obtain ⟨O, ho, _⟩ := h1.dko
  obtain ⟨P, ⟨⟨dt, vt, v, l, ad, mb, ad', mb', hm, hL⟩, hP⟩, _⟩ := h2.dko
  have hk : Keep (fun _ => False) w1 w2 := Keep.ofBelow hb
  have ho2 := ho.beside hk (KeepX.ofBelow hb) (fun _ _ e => e) (fun _ e => e.elim)
  have hs : w0.heap.size ≤ w1.heap.size := hb1.size
  refine ⟨O, P, ho2, ⟨⟨dt, vt, v, l, ad, mb, ad', mb', ⟨hb1.trans (hb.mono hs), hm.box, Nat.le_trans hs hm.dlow, hm.repD, hm.repV, fun k hk => Nat.le_trans hs (hm.lowD k hk), fun k hk => Nat.le_trans hs (hm.lowV k hk), hm.apart, row_more hm.row hs, hm.data, hm.since, hm.own⟩, hL⟩, fun k hk => ⟨Nat.le_trans hs (hP k hk).1, (hP k hk).2⟩⟩, fun k h3 h4 => ?_⟩
  have := (ho.2 k h3).2
  have e : w1.heap.size ≤ k := (hP k h4).1
  omega
end
end Go.Proofs.YtbianfjennnofaaGreatDoor
