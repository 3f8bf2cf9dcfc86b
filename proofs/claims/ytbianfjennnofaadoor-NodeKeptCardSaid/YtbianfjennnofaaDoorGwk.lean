/- WALKS OF LAYER 13, TWENTY-SEVENTH PART: walk's model. -/
import Derived.Test.YtbianfjennnofaaDoorG13z
namespace Go.Proofs.YtbianfjennnofaaDoor
set_option linter.unusedVariables false
open Go Go.RowKit Go.Maps
set_option maxRecDepth 100000
set_option maxHeartbeats 8000000
open Nt (Tr Nd WF Ps Path at_ cnt used txt)
open Classical in
/-- A Dir's names, rising. -/
noncomputable def kd (T : Tr) (q : Path) : List ByteArray := if h : ∃ L, IsKids T q L then Classical.choose h else []
theorem kd_is {T : Tr} {q : Path} {L : List ByteArray} (h : IsKids T q L) : kd T q = L := by
  unfold kd
  rw [dif_pos ⟨L, h⟩]
  exact (Classical.choose_spec (⟨L, h⟩ : ∃ L, IsKids T q L)).one h
/-- The text of a name under a path's text. -/
def under (p s : ByteArray) : ByteArray := if p.size = 0 then s else p ++ ⟨#[47]⟩ ++ s
/-- One name of walk's loop. -/
def wkOne (T : Tr) (f : ByteArray → Int × Int) (p : ByteArray) (r : Int × Int) (s : ByteArray) : Int × Int :=
  let q := under p s
  let r1 := if (T.find q).2 = 0 then (wrap64 (r.1 + 1), wrap64 (r.2 + wrap64 ((cnt T.paths (T.find q).1 : Nat) - 1))) else r
  (wrap64 (r1.1 + (f q).1), wrap64 (r1.2 + (f q).2))
/-- What walk answers, m levels deep. -/
noncomputable def wk (T : Tr) : Nat → ByteArray → Int × Int
  | 0, _ => (0, 0)
  | m + 1, p => if lsE T p ≠ 0 then (0, 0) else (kd T (Nt.nms p)).foldl (wkOne T (wk T m) p) (0, 0)
section
variable {T : Tr} {K : Nat}
theorem names_ok (hW : WF T K) : ∀ (P : Path) (n : Nat), (P, n) ∈ T.paths → ∀ x ∈ P, Pp.Nm x := by
  refine Nt.rev_ind ?_ ?_
  · intro n _ x hx
    cases hx
  · intro p y ih n hn x hx
    obtain ⟨_, h1, m, h2, _⟩ := hW.up p y n hn
    rcases List.mem_append.1 hx with h | h
    · exact ih m h2 x h
    · obtain rfl : x = y := by simpa using h
      exact h1
theorem nms_of (hW : WF T K) {P : Path} {n : Nat} (hP : (P, n) ∈ T.paths) : Nt.nms (txt P) = P := by
  have hN := names_ok hW P n hP
  by_cases h : P = []
  · subst h; rfl
  · unfold Nt.nms
    rw [if_neg (by have := Nt.txt_pos h hN; omega), Nt.pieces_txt h hN]
theorem find_txt (hW : WF T K) {P : Path} {n : Nat} (hP : (P, n) ∈ T.paths) : T.find (txt P) = (n, 0) ∨ T.find (txt P) = (0, 8) := by
  have hN := names_ok hW P n hP
  by_cases h : P = []
  · subst h
    left
    rw [Nt.nodup_one hW.nodup hP hW.root]
    rfl
  · unfold Tr.find
    rw [if_neg (by have := Nt.txt_pos h hN; omega)]
    by_cases h3 : Nt.isP (txt P) = true
    · rw [if_pos h3, Nt.pieces_txt h hN]
      left
      exact (hW.fnd_some P [] 0 n hW.root).2 hP
    · rw [if_neg h3]
      exact .inr rfl
theorem ls_txt (hW : WF T K) {P : Path} {n : Nat} (hP : (P, n) ∈ T.paths) : lsE T (txt P) = 0 ∨ lsE T (txt P) = 12 ∨ lsE T (txt P) = 8 := by
  unfold lsE
  rcases find_txt hW hP with h | h <;> rw [h]
  · rw [if_neg (by simp)]
    by_cases h4 : (T.nd n).kind = 4
    · rw [if_neg (by simp [h4])]; exact .inl rfl
    · rw [if_pos (by simpa using h4)]; exact .inr (.inl rfl)
  · rw [if_pos (by simp)]; exact .inr (.inr rfl)
theorem under_txt {P : Path} {s : ByteArray} (hN : ∀ x ∈ P, Pp.Nm x) : under (txt P) s = txt (P ++ [s]) := by
  unfold under
  by_cases h : P = []
  · subst h; rfl
  · rw [if_neg (by have := Nt.txt_pos h hN; omega), Nt.txt_snoc P s h]
end
end Go.Proofs.YtbianfjennnofaaDoor
/- WALKS OF LAYER 13, TWENTY-EIGHTH PART: walk. -/
namespace Go.Proofs.YtbianfjennnofaaDoor
set_option linter.unusedVariables false
open Go Go.RowKit Go.Maps
set_option maxRecDepth 100000
set_option maxHeartbeats 8000000
open Nt (Tr Nd WF Ps Path at_ cnt used txt)
theorem foldl_take {α β : Type} (f : β → α → β) (b : β) {l : List α} {j : Nat} {x : α} (h : l[j]? = some x) : (l.take (j + 1)).foldl f b = f ((l.take j).foldl f b) x := by
  rw [List.take_add_one, h, Option.toList_some, List.foldl_append]
  rfl
theorem own_shape13 {w : World} {B size n : Nat} {e : TypeId} {v : Value} {xs : List Value} (h : w.ownsRow B e size v n xs) : ∃ A c, v = .slice A n c := by
  rcases h.2 with ⟨h1, h2⟩ | ⟨g, cap, cur, h1, _⟩
  · subst h2
    exact ⟨_, _, h1⟩
  · exact ⟨_, _, h1⟩
theorem get_ok {w0 w : World} {tb K k : Nat} {T : Tr} (h : At w0 w tb T K) (hK : K ≤ 100000) (p : ByteArray) (hp : p.size ≤ 1000000) (hf : T.find p = (k, 0)) :
    Calls Tryd.prog 16 #[.pointer (some ⟨tb, 0, none⟩), .string p] w fun e w' => ∃ v0 v1 v2 v3 v4 v5 A n c, e = .returned (.tuple #[.agg #[.int .i64 v0, .int .i64 v1, .int .i64 v2, .int .i64 v3, .int .i64 v4, .string v5, .slice A n c, .int .i64 (cnt T.paths k : Nat)], .int .i64 0]) ∧ Below w.heap.size w w' := by
  refine (at_get h hK p hp).mono ?_
  rintro e w' ⟨vd, rfl, h1, h2⟩
  rw [hf] at h1 ⊢
  obtain ⟨A, c, rfl⟩ := own_shape13 (h1 rfl)
  unfold infoV
  rw [hf, if_pos rfl]
  exact ⟨_, _, _, _, _, _, _, _, _, rfl, h2⟩
theorem get_no {w0 w : World} {tb K : Nat} {T : Tr} (h : At w0 w tb T K) (hK : K ≤ 100000) (p : ByteArray) (hp : p.size ≤ 1000000) (hf : T.find p = (0, 8)) :
    Calls Tryd.prog 16 #[.pointer (some ⟨tb, 0, none⟩), .string p] w fun e w' => e = .returned (.tuple #[.agg #[.int .i64 0, .int .i64 0, .int .i64 0, .int .i64 0, .int .i64 0, .string ⟨#[]⟩, .slice none 0 0, .int .i64 0], .int .i64 8]) ∧ Below w.heap.size w w' := by
  refine (at_get h hK p hp).mono ?_
  rintro e w' ⟨vd, rfl, h1, h2⟩
  unfold infoV
  rw [hf, if_neg (by decide)]
  exact ⟨rfl, h2⟩
theorem under_zero {p s : ByteArray} (h : p.size = 0) : under p s = s := by unfold under; rw [if_pos h]
theorem under_some {p s : ByteArray} (h : p.size ≠ 0) : under p s = p ++ ⟨#[47]⟩ ++ s := by unfold under; rw [if_neg h]
theorem wkOne_ok {T : Tr} {f : ByteArray → Int × Int} {p s : ByteArray} {r1 r2 : Int} {k : Nat} (h : T.find (under p s) = (k, 0)) :
    wkOne T f p (r1, r2) s = (wrap64 (wrap64 (r1 + 1) + (f (under p s)).1), wrap64 (wrap64 (r2 + wrap64 ((cnt T.paths k : Nat) - 1)) + (f (under p s)).2)) := by
  unfold wkOne
  simp only [h, if_true]
theorem wkOne_no {T : Tr} {f : ByteArray → Int × Int} {p s : ByteArray} {r1 r2 : Int} (h : T.find (under p s) = (0, 8)) :
    wkOne T f p (r1, r2) s = (wrap64 (r1 + (f (under p s)).1), wrap64 (r2 + (f (under p s)).2)) := by
  unfold wkOne
  simp [h]
theorem wk_any {w0 : World} {tb K : Nat} {T : Tr} (hK : K ≤ 100000) : ∀ (m d : Nat) (P : Path) (n : Nat) (W : World), m + d = 51 → (P, n) ∈ T.paths → At w0 W tb T K →
    Calls Tryd.prog 11 #[.pointer (some ⟨tb, 0, none⟩), .string (txt P), .int .i64 (d : Int)] W fun e w' => e = .returned (.tuple #[.int .i64 (wk T m (txt P)).1, .int .i64 (wk T m (txt P)).2, .bool true]) ∧ Below W.heap.size W w' := by
  intro m
  induction m with
  | zero =>
    intro d P n W hmd hP hA
    have hsz : (txt P).size ≤ 1000000 := by have := hA.wf.long P n hP; omega
    have kl := Lib.hid (at_list hA hK (txt P) hsz)
    obtain ⟨D, hD⟩ : ∃ D : Int, (d : Int) = D := ⟨_, rfl⟩
    have g : (50 : Int) < D := by omega
    rw [hD]
    have hls := ls_txt hA.wf hP
    generalize lsE T (txt P) = z at *
    generalize txt P = p at *
    rw [show wk T 0 p = (0, 0) from rfl]
    clear hD hmd
    have HLS := Lib.hid hls
    clear hls
    go_enter Tryd.func11, Tryd.ntmps11
    go_wp2_with (go_at_call 15; refine kl.out.mono ?_; rintro e w1 ⟨v, L, rfl, ho, hki, hkn, hb1⟩; clear hki hkn)
    all_goals
      (refine bodyPost_ret (v := .tuple #[.int .i64 0, .int .i64 0, .bool true]) (by simp [results, Tryd.f11, go_sem]) rfl ?_)
      exact ⟨rfl, hb1⟩
  | succ m ih =>
    intro d P n W hmd hP hA
    have hsz : (txt P).size ≤ 1000000 := by have := hA.wf.long P n hP; omega
    have kl := Lib.hid (at_list hA hK (txt P) hsz)
    have hN := hA.wf.names P n hP
    obtain ⟨D, hD⟩ : ∃ D : Int, (d : Int) = D := ⟨_, rfl⟩
    have g : ¬ (50 : Int) < D := by omega
    have hDd : D = d := hD.symm
    have hls := ls_txt hA.wf hP
    by_cases hl : lsE T (txt P) = 0
    · have hwk : wk T (m + 1) (txt P) = (kd T P).foldl (wkOne T (wk T m) (txt P)) (0, 0) := by
        show (if lsE T (txt P) ≠ 0 then _ else _) = _
        rw [if_neg (by simp [hl]), nms_of hA.wf hP]
      rw [hl, nms_of hA.wf hP] at kl
      have HA := Lib.hid hA
      have HHP := Lib.hid hP
      have HN := Lib.hid hN
      have HMD := Lib.hid hmd
      have HWK := Lib.hid hwk
      have HDD := Lib.hid hDd
      clear hls hl hP hA hN hmd hwk hDd
      rw [hD]
      obtain ⟨p, hpp⟩ : ∃ p, txt P = p := ⟨_, rfl⟩
      have HPP := Lib.hid hpp
      rw [hpp] at kl hsz ⊢
      clear hD hpp
      go_enter Tryd.func11, Tryd.ntmps11
      go_wp2_with (go_at_call 15; refine kl.out.mono ?_; rintro e w1 ⟨v, L, rfl, ho, hki, _, hb1⟩; replace hki := hki (by trivial); have HKI := Lib.hid hki; obtain ⟨A6, c6, rfl, hrt, hl6, hm6⟩ := ho.rt; clear hki ho)
      have hwk2 : wk T (m + 1) p = L.foldl (wkOne T (wk T m) p) (0, 0) := by rw [← HPP.out, HWK.out, kd_is HKI.out]
      have HW2 := Lib.hid hwk2
      have HRT := Lib.hid hrt
      have hm7 : L.length ≤ 9223372036854775807 := by have h1 := hm6; unfold maxLen at h1; omega
      clear hwk2 hrt
      go_loopw [11, 12, 45] (fun a b i W' => ∃ j : Nat, j ≤ L.length ∧ a = .int .i64 ((L.take j).foldl (wkOne T (wk T m) p) (0, 0)).1 ∧ b = .int .i64 ((L.take j).foldl (wkOne T (wk T m) p) (0, 0)).2 ∧ i = .int .i64 j ∧ Hid (Below w1.heap.size w1 W')) (fun _ _ i _ => L.length - (intOf i).toNat)
      case atStart => exact ⟨0, Nat.zero_le _, rfl, rfl, rfl, Below.refl _ _⟩
      case round =>
        obtain ⟨j, hj, rfl, rfl, rfl, HB⟩ := hrel
        by_cases hlt : j < L.length
        · have hlt' : (j : Int) < L.length := by omega
          obtain ⟨b, x, rfl, hx, hcx⟩ := (HRT.out.below HB.out).at_ hlt
          obtain ⟨k, hk⟩ := Option.isSome_iff_exists.1 ((HKI.out.2 x).1 (List.mem_of_getElem? hx))
          replace hk := Nt.at_mem hk
          have hst := foldl_take (wkOne T (wk T m) p) (0, 0) hx
          have hq := under_txt (s := x) HN.out
          rw [HPP.out] at hq
          have hqs : (txt (P ++ [x])).size ≤ 1000000 := by have := HA.out.wf.long _ _ hk; omega
          have hqp : p.size + 1 + x.size ≤ 2000000 := by
            have h1 := Nt.nm_le (HA.out.wf.up P x k hk).2.1
            omega
          have hAr := HA.out.later (bthen hb1 HB.out)
          have kg := Lib.hid (fun h => get_ok (k := k) hAr hK (txt (P ++ [x])) hqs h)
          have kn := Lib.hid (get_no hAr hK (txt (P ++ [x])) hqs)
          have kih := Lib.hid (fun W' (h : Below wr.heap.size wr W') => ih (d + 1) (P ++ [x]) k W' (by have := HMD.out; omega) hk (hAr.later h))
          have hfd := find_txt hAr.wf hk
          have hdd : ((d + 1 : Nat) : Int) = wrap64 (D + 1) := by have h1 := HDD.out; have h2 := HMD.out; rw [h1]; unfold wrap64; omega
          rw [hdd] at kih
          rw [← hq] at kg kn kih hfd hqs
          generalize hR : (L.take j).foldl (wkOne T (wk T m) p) (0, 0) = R at *
          obtain ⟨r1, r2⟩ := R
          have HST := Lib.hid hst
          have HFD := Lib.hid hfd
          have HK2 := Lib.hid hk
          have HX := Lib.hid hx
          clear hst hfd hk hq hAr hR hdd hx
          rcases HFD.out with hf | hf
          · by_cases hp0 : p.size = 0
            · obtain rfl := size_zero.1 hp0
              rw [under_zero hp0] at kg kn kih HFD hqs
              have hf' := hf
              rw [under_zero hp0] at hf
              have HF := Lib.hid hf'
              have HP0 := Lib.hid hp0
              clear hf' hp0
              rcases j with _ | i
              · go_wp2_with (first
                  | (go_at_call 11; with_reducible refine (kih.out _ hb3).mono ?_; rintro e w4 ⟨rfl, hb4⟩)
                  | (go_at_call 16; refine (kg.out hf).mono ?_; rintro e w2 ⟨v0, v1, v2, v3, v4, v5, A2, n2, c2, rfl, hb2⟩; have hb3 := bthen hb2 (below_new w2 (.cells #[.int .i64 v0, .int .i64 v1, .int .i64 v2, .int .i64 v3, .int .i64 v4, .string v5, .slice A2 n2 c2, .int .i64 ((cnt T.paths k : Nat) : Int)] 53))))
                go_roundw
                case rel => exact ⟨1, by omega, by rw [HST.out, wkOne_ok HF.out, under_zero HP0.out], by rw [HST.out, wkOne_ok HF.out, under_zero HP0.out], by go_num, bthen HB.out (bthen hb3 hb4)⟩
                case measure => simp [intOf]; omega
              · obtain ⟨b', x', eb, hx', hcx'⟩ := (HRT.out.below HB.out).at_ (k := i) (by omega)
                cases eb
                have hris : Op.bytesLess x'.toList x.toList = true := by
                  have h1 := List.pairwise_iff_getElem.1 HKI.out.1 i (i + 1) (by omega) hlt (by omega)
                  obtain ⟨_, e1⟩ := List.getElem?_eq_some_iff.1 hx'
                  obtain ⟨_, e2⟩ := List.getElem?_eq_some_iff.1 HX.out
                  rw [e1, e2] at h1
                  exact h1
                clear hx'
                have hwi : wrap64 (i : Int) = i := by have h1 := hm6; unfold maxLen at h1; unfold wrap64; omega
                go_wp2_with (first
                  | (go_at_call 11; with_reducible refine (kih.out _ hb3).mono ?_; rintro e w4 ⟨rfl, hb4⟩)
                  | (go_at_call 16; refine (kg.out hf).mono ?_; rintro e w2 ⟨v0, v1, v2, v3, v4, v5, A2, n2, c2, rfl, hb2⟩; have hb3 := bthen hb2 (below_new w2 (.cells #[.int .i64 v0, .int .i64 v1, .int .i64 v2, .int .i64 v3, .int .i64 v4, .string v5, .slice A2 n2 c2, .int .i64 ((cnt T.paths k : Nat) : Int)] 53))))
                go_roundw
                case rel => exact ⟨i + 2, by omega, by rw [HST.out, wkOne_ok HF.out, under_zero HP0.out], by rw [HST.out, wkOne_ok HF.out, under_zero HP0.out], by go_num, bthen HB.out (bthen hb3 hb4)⟩
                case measure => simp [intOf]; omega
            · have hpe : p.toList.isEmpty = false := by rw [isEmpty_eq]; simp [hp0]
              rw [under_some hp0] at kg kn kih HFD hqs
              have hf' := hf
              rw [under_some hp0] at hf
              have HF := Lib.hid hf'
              have HP0 := Lib.hid hp0
              clear hf' hp0
              rcases j with _ | i
              · go_wp2_with (first
                  | (go_at_call 11; with_reducible refine (kih.out _ hb3).mono ?_; rintro e w4 ⟨rfl, hb4⟩)
                  | (go_at_call 16; refine (kg.out hf).mono ?_; rintro e w2 ⟨v0, v1, v2, v3, v4, v5, A2, n2, c2, rfl, hb2⟩; have hb3 := bthen hb2 (below_new w2 (.cells #[.int .i64 v0, .int .i64 v1, .int .i64 v2, .int .i64 v3, .int .i64 v4, .string v5, .slice A2 n2 c2, .int .i64 ((cnt T.paths k : Nat) : Int)] 53))))
                go_roundw
                case rel => exact ⟨1, by omega, by rw [HST.out, wkOne_ok HF.out, under_some HP0.out], by rw [HST.out, wkOne_ok HF.out, under_some HP0.out], by go_num, bthen HB.out (bthen hb3 hb4)⟩
                case measure => simp [intOf]; omega
              · obtain ⟨b', x', eb, hx', hcx'⟩ := (HRT.out.below HB.out).at_ (k := i) (by omega)
                cases eb
                have hris : Op.bytesLess x'.toList x.toList = true := by
                  have h1 := List.pairwise_iff_getElem.1 HKI.out.1 i (i + 1) (by omega) hlt (by omega)
                  obtain ⟨_, e1⟩ := List.getElem?_eq_some_iff.1 hx'
                  obtain ⟨_, e2⟩ := List.getElem?_eq_some_iff.1 HX.out
                  rw [e1, e2] at h1
                  exact h1
                clear hx'
                have hwi : wrap64 (i : Int) = i := by have h1 := hm6; unfold maxLen at h1; unfold wrap64; omega
                go_wp2_with (first
                  | (go_at_call 11; with_reducible refine (kih.out _ hb3).mono ?_; rintro e w4 ⟨rfl, hb4⟩)
                  | (go_at_call 16; refine (kg.out hf).mono ?_; rintro e w2 ⟨v0, v1, v2, v3, v4, v5, A2, n2, c2, rfl, hb2⟩; have hb3 := bthen hb2 (below_new w2 (.cells #[.int .i64 v0, .int .i64 v1, .int .i64 v2, .int .i64 v3, .int .i64 v4, .string v5, .slice A2 n2 c2, .int .i64 ((cnt T.paths k : Nat) : Int)] 53))))
                go_roundw
                case rel => exact ⟨i + 2, by omega, by rw [HST.out, wkOne_ok HF.out, under_some HP0.out], by rw [HST.out, wkOne_ok HF.out, under_some HP0.out], by go_num, bthen HB.out (bthen hb3 hb4)⟩
                case measure => simp [intOf]; omega
          · by_cases hp0 : p.size = 0
            · obtain rfl := size_zero.1 hp0
              rw [under_zero hp0] at kg kn kih HFD hqs
              have hf' := hf
              rw [under_zero hp0] at hf
              have HF := Lib.hid hf'
              have HP0 := Lib.hid hp0
              clear hf' hp0
              rcases j with _ | i
              · go_wp2_with (first
                  | (go_at_call 11; with_reducible refine (kih.out _ hb3).mono ?_; rintro e w4 ⟨rfl, hb4⟩)
                  | (go_at_call 16; refine (kn.out hf).mono ?_; rintro e w2 ⟨rfl, hb2⟩; have hb3 := bthen hb2 (below_new w2 (.cells #[.int .i64 0, .int .i64 0, .int .i64 0, .int .i64 0, .int .i64 0, .string ⟨#[]⟩, .slice none 0 0, .int .i64 0] 53))))
                go_roundw
                case rel => exact ⟨1, by omega, by rw [HST.out, wkOne_no HF.out, under_zero HP0.out], by rw [HST.out, wkOne_no HF.out, under_zero HP0.out], by go_num, bthen HB.out (bthen hb3 hb4)⟩
                case measure => simp [intOf]; omega
              · obtain ⟨b', x', eb, hx', hcx'⟩ := (HRT.out.below HB.out).at_ (k := i) (by omega)
                cases eb
                have hris : Op.bytesLess x'.toList x.toList = true := by
                  have h1 := List.pairwise_iff_getElem.1 HKI.out.1 i (i + 1) (by omega) hlt (by omega)
                  obtain ⟨_, e1⟩ := List.getElem?_eq_some_iff.1 hx'
                  obtain ⟨_, e2⟩ := List.getElem?_eq_some_iff.1 HX.out
                  rw [e1, e2] at h1
                  exact h1
                clear hx'
                have hwi : wrap64 (i : Int) = i := by have h1 := hm6; unfold maxLen at h1; unfold wrap64; omega
                go_wp2_with (first
                  | (go_at_call 11; with_reducible refine (kih.out _ hb3).mono ?_; rintro e w4 ⟨rfl, hb4⟩)
                  | (go_at_call 16; refine (kn.out hf).mono ?_; rintro e w2 ⟨rfl, hb2⟩; have hb3 := bthen hb2 (below_new w2 (.cells #[.int .i64 0, .int .i64 0, .int .i64 0, .int .i64 0, .int .i64 0, .string ⟨#[]⟩, .slice none 0 0, .int .i64 0] 53))))
                go_roundw
                case rel => exact ⟨i + 2, by omega, by rw [HST.out, wkOne_no HF.out, under_zero HP0.out], by rw [HST.out, wkOne_no HF.out, under_zero HP0.out], by go_num, bthen HB.out (bthen hb3 hb4)⟩
                case measure => simp [intOf]; omega
            · have hpe : p.toList.isEmpty = false := by rw [isEmpty_eq]; simp [hp0]
              rw [under_some hp0] at kg kn kih HFD hqs
              have hf' := hf
              rw [under_some hp0] at hf
              have HF := Lib.hid hf'
              have HP0 := Lib.hid hp0
              clear hf' hp0
              rcases j with _ | i
              · go_wp2_with (first
                  | (go_at_call 11; with_reducible refine (kih.out _ hb3).mono ?_; rintro e w4 ⟨rfl, hb4⟩)
                  | (go_at_call 16; refine (kn.out hf).mono ?_; rintro e w2 ⟨rfl, hb2⟩; have hb3 := bthen hb2 (below_new w2 (.cells #[.int .i64 0, .int .i64 0, .int .i64 0, .int .i64 0, .int .i64 0, .string ⟨#[]⟩, .slice none 0 0, .int .i64 0] 53))))
                go_roundw
                case rel => exact ⟨1, by omega, by rw [HST.out, wkOne_no HF.out, under_some HP0.out], by rw [HST.out, wkOne_no HF.out, under_some HP0.out], by go_num, bthen HB.out (bthen hb3 hb4)⟩
                case measure => simp [intOf]; omega
              · obtain ⟨b', x', eb, hx', hcx'⟩ := (HRT.out.below HB.out).at_ (k := i) (by omega)
                cases eb
                have hris : Op.bytesLess x'.toList x.toList = true := by
                  have h1 := List.pairwise_iff_getElem.1 HKI.out.1 i (i + 1) (by omega) hlt (by omega)
                  obtain ⟨_, e1⟩ := List.getElem?_eq_some_iff.1 hx'
                  obtain ⟨_, e2⟩ := List.getElem?_eq_some_iff.1 HX.out
                  rw [e1, e2] at h1
                  exact h1
                clear hx'
                have hwi : wrap64 (i : Int) = i := by have h1 := hm6; unfold maxLen at h1; unfold wrap64; omega
                go_wp2_with (first
                  | (go_at_call 11; with_reducible refine (kih.out _ hb3).mono ?_; rintro e w4 ⟨rfl, hb4⟩)
                  | (go_at_call 16; refine (kn.out hf).mono ?_; rintro e w2 ⟨rfl, hb2⟩; have hb3 := bthen hb2 (below_new w2 (.cells #[.int .i64 0, .int .i64 0, .int .i64 0, .int .i64 0, .int .i64 0, .string ⟨#[]⟩, .slice none 0 0, .int .i64 0] 53))))
                go_roundw
                case rel => exact ⟨i + 2, by omega, by rw [HST.out, wkOne_no HF.out, under_some HP0.out], by rw [HST.out, wkOne_no HF.out, under_some HP0.out], by go_num, bthen HB.out (bthen hb3 hb4)⟩
                case measure => simp [intOf]; omega
        · have hlt' : ¬ (j : Int) < L.length := by omega
          obtain rfl : j = L.length := by omega
          rw [List.take_length]
          go_wp2
          (refine bodyPost_ret (v := .tuple #[.int .i64 (L.foldl (wkOne T (wk T m) p) (0, 0)).1, .int .i64 (L.foldl (wkOne T (wk T m) p) (0, 0)).2, .bool true]) (by simp [results, Tryd.f11, go_sem]) rfl ?_)
          exact ⟨by rw [HW2.out], bthen hb1 HB.out⟩
    · have hwk : wk T (m + 1) (txt P) = (0, 0) := by
        show (if lsE T (txt P) ≠ 0 then _ else _) = _
        rw [if_pos hl]
      rw [hwk, hD]
      generalize lsE T (txt P) = z at *
      have gz : (z != 0) = true := by simp [hl]
      have HLS := Lib.hid hls
      have HL := Lib.hid hl
      generalize txt P = p at *
      clear hls hl hwk hD hDd hmd
      rcases HLS.out.resolve_left HL.out with rfl | rfl
      · go_enter Tryd.func11, Tryd.ntmps11
        go_wp2_with (go_at_call 15; refine kl.out.mono ?_; rintro e w1 ⟨v, L, rfl, ho, hki, hkn, hb1⟩; clear hki hkn)
        (refine bodyPost_ret (v := .tuple #[.int .i64 0, .int .i64 0, .bool true]) (by simp [results, Tryd.f11, go_sem]) rfl ?_)
        exact ⟨rfl, hb1⟩
      · go_enter Tryd.func11, Tryd.ntmps11
        go_wp2_with (go_at_call 15; refine kl.out.mono ?_; rintro e w1 ⟨v, L, rfl, ho, hki, hkn, hb1⟩; clear hki hkn)
        (refine bodyPost_ret (v := .tuple #[.int .i64 0, .int .i64 0, .bool true]) (by simp [results, Tryd.f11, go_sem]) rfl ?_)
        exact ⟨rfl, hb1⟩
end Go.Proofs.YtbianfjennnofaaDoor
