/- WALKS OF LAYER 13, THIRD PART: finding. -/
import Derived.Test.YtbianfjennnofaaDoorG13b
namespace Go.Proofs.YtbianfjennnofaaDoor
set_option linter.unusedVariables false
open Go Go.RowKit
set_option maxRecDepth 100000
set_option maxHeartbeats 1000000
open Nt (Tr Nd WF Ps Path at_ cnt used)
section
variable {F : Nat → Prop} {K tb : Nat} {T : Tr} {ad mb : Nat → Nat}
/-- What a call that finds hands back. -/
abbrev fv (ad : Nat → Nat) (x : Nat × Int) : Value := ptrv (if x.2 = 0 then some (ad x.1) else none)
theorem fnd_step {q : Path} {m : Nat} {L : Path} {k : Nat} {x : ByteArray} (hx : L[k]? = some x) : T.fnd q m (L.drop k) = if (T.nd m).kind ≠ 4 then (0, 12) else match at_ T.paths (q ++ [x]) with
    | none => (0, 6)
    | some j => T.fnd (q ++ [x]) j (L.drop (k + 1)) := by
  obtain ⟨hk, e⟩ := List.getElem?_eq_some_iff.1 hx
  rw [List.drop_eq_getElem_cons hk, e]
  rfl
theorem find_any {w : World} (hW : WF T K) (hR : RepP F K w tb T ad mb) (p : ByteArray) (hp : p.size ≤ 1000000) :
    Calls Tryd.prog 29 #[.pointer (some ⟨tb, 0, none⟩), .string p] w fun e w' => e = .returned (.tuple #[fv ad (T.find p), .int .i64 (T.find p).2]) ∧ Below w.heap.size w w' := by
  have km := Lib.hid (fun W (hx : BX W tb 49 (TC T (ad 0) T.usedN T.usedB)) => made_any W tb _ (ad 0) hx rfl)
  have c0 : w.cell? ⟨tb, 0, none⟩ = some (.pointer (some ⟨ad 0, 0, none⟩)) := hR.tree.cell rfl
  have hX := Lib.hid hR.tree
  by_cases h0 : p.size = 0
  · obtain rfl := size_zero.1 h0
    rw [show T.find ⟨#[]⟩ = (0, 0) from rfl]
    go_enter Tryd.func29, Tryd.ntmps29
    go_wp2_with (first | (go_at_call 24; refine (km.out _ hX.out).mono ?_; rintro e w' ⟨rfl, rfl⟩))
    go_ret2
    exact ⟨rfl, Below.refl _ _⟩
  · have g0 : p.toList.isEmpty = false := by rw [isEmpty_eq]; simp [h0]
    have kp := Lib.hid (fun W => parts_any p W hp)
    by_cases h1 : Nt.isP p = true
    · obtain ⟨h300, hN⟩ := Nt.isP_iff.1 h1
      have hE := Pp.parts_yes h300 hN
      rw [hE] at kp
      have hF : T.find p = T.fnd [] 0 (Pp.pieces p) := by unfold Tr.find; rw [if_neg h0, if_pos h1]
      rw [hF]
      have hLl : (Pp.pieces p).length ≤ 1000 := by have := Pp.pieces_len p; omega
      clear hE hF
      generalize Pp.pieces p = L at *
      have HN := Lib.hid hN
      clear h0 h1 h300 hN
      go_enter Tryd.func29, Tryd.ntmps29
      go_wp2_with (first | (go_at_call 24; refine (km.out _ hX.out).mono ?_; rintro e w' ⟨rfl, rfl⟩) | (go_at_call 44; refine (kp.out _).mono ?_; rintro e w1 ⟨v, rfl, ho, hb⟩; obtain ⟨A, c, rfl, hr, hlc, hcm⟩ := ho.rt; replace c0 : w1.cell? ⟨tb, 0, none⟩ = some (.pointer (some ⟨ad 0, 0, none⟩)) := (hX.out.later hb).cell rfl))
      have hR1 := Lib.hid (hR.later hb)
      go_loop [8, 38] (fun n i => ∃ (k m : Nat) (q : Path), n = .pointer (some ⟨ad m, 0, none⟩) ∧ i = .int .i64 k ∧ k ≤ L.length ∧ Hid ((q, m) ∈ T.paths) ∧ Hid (T.fnd [] 0 L = T.fnd q m (L.drop k))) (fun _ i => L.length - (intOf i).toNat)
      case atStart => exact ⟨0, 0, [], rfl, rfl, by omega, hW.root, rfl⟩
      case round =>
        obtain ⟨k, m, q, rfl, rfl, hk, HM, HE⟩ := hrel
        by_cases hlt : k < L.length
        · have hlt' : (k : Int) < L.length := by omega
          obtain ⟨b, x, rfl, hx, hcell⟩ := hr.at_ hlt
          have hst := Lib.hid (fnd_step (T := T) (q := q) (m := m) hx)
          have hxm := Lib.hid (HN.out x (List.mem_of_getElem? hx))
          have HX := Lib.hid hx; clear hx
          by_cases hkd : (T.nd m).kind = 4
          · have hd := Lib.hid (hR1.out.dir HM.out hkd)
            have d0 : w1.cell? ⟨ad m, 0, none⟩ = some (.int .i64 4) := by rw [← hkd]; exact hd.out.cell rfl
            have d7 : w1.cell? ⟨ad m, 7, none⟩ = some (.map (some (mb m))) := hd.out.cell rfl
            have hl := (hR1.out.map _ _ HM.out hkd).2.look_ok (s := x) (by have := Nt.nm_le hxm.out; unfold maxLen; omega)
            have HK := Lib.hid hkd; clear hkd
            cases ha : at_ T.paths (q ++ [x]) with
            | none =>
              rw [ha] at hl
              have HA := Lib.hid ha; clear ha
              have HR : Hid (T.fnd [] 0 L = (0, 6)) := by
                show _ = _
                rw [HE.out, hst.out, if_neg (by simp [HK.out]), HA.out]
              go_wp2
              go_ret2
              exact ⟨by rw [HR.out]; rfl, hb⟩
            | some j =>
              rw [ha] at hl
              have HR : Hid (T.fnd [] 0 L = T.fnd (q ++ [x]) j (L.drop (k + 1))) := by
                show _ = _
                rw [HE.out, hst.out, if_neg (by simp [HK.out]), ha]
              have HJ : Hid ((q ++ [x], j) ∈ T.paths) := Nt.at_mem ha
              clear ha
              replace hl : (Instr.lookup 59 (.map (some (mb m))) (.string x) true).run Tryd.prog w1 = .ok (.tuple #[.pointer (some ⟨ad j, 0, none⟩), .bool true]) w1 := hl
              go_wp2
              go_round
              case rel => exact ⟨k + 1, j, q ++ [x], rfl, by go_num, by omega, HJ, HR⟩
              case measure => simp [intOf]; omega
          · have hd := Lib.hid (hR1.out.leaf HM.out hkd)
            have d0 : w1.cell? ⟨ad m, 0, none⟩ = some (.int .i64 (T.nd m).kind) := hd.out.cell rfl
            have HR : Hid (T.fnd [] 0 L = (0, 12)) := by
              show _ = _
              rw [HE.out, hst.out, if_pos hkd]
            obtain ⟨kd, hkk⟩ : ∃ kd, (T.nd m).kind = kd := ⟨_, rfl⟩
            rw [hkk] at d0 hkd
            have g : (kd != 4) = true := by simp [hkd]
            have HKK := Lib.hid hkk
            clear hkk hkd
            go_wp2
            go_ret2
            exact ⟨by rw [HR.out]; rfl, hb⟩
        · have e : k = L.length := by omega
          subst e
          have HR : Hid (T.fnd [] 0 L = (m, 0)) := by
            show _ = _
            rw [HE.out, List.drop_length]
            rfl
          go_wp2
          go_ret2
          exact ⟨by rw [HR.out]; rfl, hb⟩
    · have hF : T.find p = (0, 8) := by unfold Tr.find; rw [if_neg h0, if_neg h1]
      have hE : Pp.partsS p = ([], 8) := by
        unfold Pp.partsS
        rw [if_neg fun h => h1 (Nt.isP_iff.2 h)]
      rw [hE] at kp
      rw [hF]
      clear hE hF h0 h1
      go_enter Tryd.func29, Tryd.ntmps29
      go_wp2_with (first | (go_at_call 24; refine (km.out _ hX.out).mono ?_; rintro e w' ⟨rfl, rfl⟩) | (go_at_call 44; refine (kp.out _).mono ?_; rintro e w1 ⟨v, rfl, ho, hb⟩))
      go_ret2
      exact ⟨rfl, hb⟩
/-- The text of a path's parent. -/
theorem par_text {p : ByteArray} {r : Int} (hr : Pp.IsLast p p.size r) : ((Pp.pieces p).dropLast = [] ∧ (parentS p r).size = 0 ∧ baseS p r = p ∧ Pp.pieces p = [p]) ∨ (Pp.pieces (parentS p r) = (Pp.pieces p).dropLast ∧ (Pp.pieces p) = (Pp.pieces p).dropLast ++ [baseS p r] ∧ (Pp.pieces p).dropLast ≠ []) := by
  by_cases h0 : r = -1
  · subst h0
    have e := Pp.pieces_none hr
    left
    refine ⟨by rw [e]; rfl, ?_, ?_, e⟩
    · unfold parentS
      rw [Pp.extract_size]
      have : (max (-1 : Int) 0).toNat = 0 := by decide
      omega
    · unfold baseS
      exact Pp.ext_all p
  · have hb := last_bd hr
    obtain ⟨i, rfl⟩ : ∃ i : Nat, r = i := ⟨r.toNat, by omega⟩
    obtain ⟨hi, e1, e2⟩ := Pp.pieces_parent hr
    right
    have ep : parentS p i = p.extract 0 i := by unfold parentS; rw [show (max (i : Int) 0).toNat = i by omega]
    have eb : baseS p i = p.extract (i + 1) p.size := by unfold baseS; rw [show ((i : Int) + 1).toNat = i + 1 by omega]
    rw [ep, eb, e2, List.dropLast_concat]
    exact ⟨rfl, rfl, Pp.pieces_ne _⟩
theorem find_par {p : ByteArray} {r : Int} (hr : Pp.IsLast p p.size r) (h1 : Nt.isP p = true) : T.find (parentS p r) = T.fnd [] 0 (Pp.pieces p).dropLast := by
  obtain ⟨h300, hN⟩ := Nt.isP_iff.1 h1
  rcases par_text hr with ⟨e1, e2, _, _⟩ | ⟨e1, e2, e3⟩
  · unfold Tr.find
    rw [if_pos e2, e1]
    rfl
  · have hs : 0 < (parentS p r).size := by
      have := Nt.txt_pos e3 (fun x hx => hN x (List.dropLast_subset _ hx))
      rw [← e1, Nt.txt_pieces] at this
      exact this
    have hle : (parentS p r).size ≤ p.size := by unfold parentS; rw [Pp.extract_size]; omega
    unfold Tr.find
    rw [if_neg (by omega), if_pos (Nt.isP_iff.2 ⟨by omega, fun x hx => hN x (List.dropLast_subset _ (e1 ▸ hx))⟩), e1]
theorem base_last {p : ByteArray} {r : Int} (hr : Pp.IsLast p p.size r) : Pp.pieces p = (Pp.pieces p).dropLast ++ [baseS p r] := by
  rcases par_text hr with ⟨e1, e2, e3, e4⟩ | ⟨_, e2, _⟩
  · rw [e1, e3, e4]; rfl
  · exact e2
end
end Go.Proofs.YtbianfjennnofaaDoor
