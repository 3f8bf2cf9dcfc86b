/- WALKS OF LAYER 13, FOURTEENTH PART: Clear, Remove. -/
import Derived.Test.YtbianfjennnofaaGreatDoorN13e
namespace Go.Proofs.YtbianfjennnofaaGreatDoor
set_option linter.unusedVariables false
open Go Go.RowKit Go.Maps
set_option maxRecDepth 100000
set_option maxHeartbeats 1000000
open Nt (Tr Nd WF Ps Path at_ cnt used)
section
variable {F : Nat → Prop} {K tb : Nat} {w w' : World} {T : Tr} {ad mb : Nat → Nat}
theorem eqp_same (w : World) (a : Nat) : (binOp .eql 87 (.pointer (some ⟨a, 0, none⟩)) (.pointer (some ⟨a, 0, none⟩))).run Tryz.prog w = .ok (.bool true) w :=
  run_eql_ptr_same (te := 91) w _ Tryz.underlying87 rfl
theorem eqp_other {a b U V : Nat} {cs ds : Array Value} (h : BX w a U cs) (k : BX w b V ds) (hne : a ≠ b) : (binOp .eql 87 (.pointer (some ⟨a, 0, none⟩)) (.pointer (some ⟨b, 0, none⟩))).run Tryz.prog w = .ok (.bool false) w :=
  run_eql_ptr_other (te := 91) w Tryz.underlying87 rfl (by decide) (fun e => hne (by cases e; rfl)) h k
theorem RepP.eqp (h : RepP F K w tb T ad mb) {p q : Path} {n m : Nat} (hn : (p, n) ∈ T.paths) (hm : (q, m) ∈ T.paths) :
    (binOp .eql 87 (.pointer (some ⟨ad n, 0, none⟩)) (.pointer (some ⟨ad m, 0, none⟩))).run Tryz.prog w = .ok (.bool (decide (n = m))) w := by
  by_cases e : n = m
  · subst e
    rw [decide_eq_true rfl]
    exact eqp_same w _
  · rw [decide_eq_false e]
    exact eqp_other (h.node _ _ hn).1 (h.node _ _ hm).1 fun e2 => e (h.inj _ _ _ _ hn hm e2)
/-- A path that is there, and not the root's: its place. -/
theorem found_place (hW : WF T K) {p : ByteArray} {r : Int} (hc : (T.find p).2 = 0) (h0 : p.size ≠ 0) (hr : Pp.IsLast p p.size r) :
    T.parE p = 0 ∧ ∃ q y m, Pp.pieces p = q ++ [y] ∧ Pp.Nm y ∧ (q, m) ∈ T.paths ∧ (T.nd m).kind = 4 ∧ (T.fnd [] 0 (Pp.pieces p).dropLast).1 = m ∧ baseS p r = y ∧ (Pp.pieces p, (T.find p).1) ∈ T.paths := by
  obtain ⟨h1, h2⟩ := hW.find_ok hc
  have h1 : Nt.isP p = true := h1.resolve_left h0
  rw [Nt.nms_isP h1] at h2
  have e1 := base_last hr
  obtain ⟨q, hq⟩ : ∃ q, (Pp.pieces p).dropLast = q := ⟨_, rfl⟩
  rw [hq] at e1
  rw [e1] at h2 ⊢
  obtain ⟨_, hy, m, hm, hk⟩ := hW.up _ _ _ h2
  have hf := (hW.fnd_some q [] 0 m hW.root).2 hm
  refine ⟨?_, q, baseS p r, m, rfl, hy, hm, hk, by rw [List.dropLast_concat, hf], rfl, h2⟩
  unfold Tr.parE
  rw [if_pos h1, hq, hf]
  simp [hk]
theorem clear_any (hW : WF T K) (hK : K ≤ 100000) (hR : RepP F K w tb T ad mb) (p : ByteArray) (hp : p.size ≤ 1000000) :
    Calls Tryz.prog 58 #[.pointer (some ⟨tb, 0, none⟩), .string p] w fun e w' => Done F K w w' tb (T.clr p) e := by
  obtain ⟨r, hr⟩ := Pp.last_ex p p.size (Nat.le_refl _)
  have HR := Lib.hid hR
  have kf := Lib.hid (fun W (h : RepP F K W tb T ad mb) => find_any hW h p hp)
  have ko := Lib.hid (fun W (h : RepP F K W tb T ad mb) => placeOf_any hW h p hp r hr)
  by_cases hc : (T.find p).2 = 0
  · have hj := (hW.find_ok hc).2
    have hfd : T.find p = ((T.find p).1, 0) := by rw [← hc]
    have hroot := hW.find_root hc
    by_cases h0 : p.size = 0
    · have hE : T.clr p = (T, 1) := by
        have : T.clrE p = 1 := by unfold Tr.clrE; rw [if_neg (by simp [hc]), if_pos h0]
        unfold Tr.clr
        rw [this, if_neg (by decide)]
      rw [hE]
      rw [hroot.2 h0] at hfd hj
      rw [hfd] at kf
      simp only [fv, if_pos, ptrv] at kf
      have kq := Lib.hid (fun W (h : RepP F K W tb T ad mb) => eqp_same W (ad 0))
      have kt := Lib.hid (fun W (h : RepP F K W tb T ad mb) => show W.cell? ⟨tb, 0, none⟩ = some (.pointer (some ⟨ad 0, 0, none⟩)) from h.tree.cell rfl)
      clear hE hroot hfd hc
      go_enter Tryz.func58, Tryz.ntmps58
      go_wp2_with (go_at_call 66; refine (kf.out _ HR.out).mono ?_; rintro e w1 ⟨rfl, hb1⟩; have t0 := kt.out w1 (HR.out.later hb1); have eq0 := kq.out w1 (HR.out.later hb1))
      go_ret
      exact Done.err HR.out hb1 1
    · obtain ⟨hpe, q, y, m, e1, hy, hm, hk, e2, e3, hn⟩ := found_place hW hc h0 hr
      have hE : T.clr p = (T.clr1 (q ++ [y]), 0) := by
        have : T.clrE p = 0 := by unfold Tr.clrE; rw [if_neg (by simp [hc]), if_neg h0]
        unfold Tr.clr
        rw [this, if_pos rfl, e1]
      rw [hE]
      rw [e2, e3, hpe] at ko
      have hn0 : (T.find p).1 ≠ 0 := fun e => h0 (hroot.1 e)
      rw [hfd] at kf
      rw [e1] at hn
      generalize (T.find p).1 = n at *
      simp only [fv, if_pos, ptrv] at kf
      have kq := Lib.hid (fun W (h : RepP F K W tb T ad mb) => show (binOp .eql 87 (.pointer (some ⟨ad n, 0, none⟩)) (.pointer (some ⟨ad 0, 0, none⟩))).run Tryz.prog W = .ok (.bool false) W from by
        have := h.eqp hn hW.root
        rw [decide_eq_false hn0] at this
        exact this)
      have kt := Lib.hid (fun W (h : RepP F K W tb T ad mb) => show W.cell? ⟨tb, 0, none⟩ = some (.pointer (some ⟨ad 0, 0, none⟩)) from h.tree.cell rfl)
      have kc := Lib.hid (fun W (h : RepP F K W tb T ad mb) => pclear_any W (ad m) (mb m) K (T.nd m) _ _ y (h.dir hm hk) (h.map _ _ hm hk).2 (by have := Nt.nm_le hy; unfold maxLen; omega))
      have kd := Lib.hid (fun W V (h : RepP F K W tb T ad mb) (ho : Oth (mb m) W V) => drop_any (w := V) hW hK hn (by simp) (h.ds_oth hm hk ho) h.inj (fun d j hd hkd hu => (h.map d j hd hkd).2.oth ho fun e4 => by
        have e5 := h.minj _ _ _ _ hd hm hkd hk e4
        subst e5
        obtain rfl : d = q := hW.one _ _ _ hd hm (by rw [hk]; decide)
        have := hu.length_le
        simp at this
        omega))
      clear hE hroot hfd hc h0 hpe e1 e2 e3 hj
      go_enter Tryz.func58, Tryz.ntmps58
      go_wp2_with (first
        | (go_at_call 66; refine (kf.out _ HR.out).mono ?_; rintro e w1 ⟨rfl, hb1⟩; have hR1 := Lib.hid (HR.out.later hb1); have t0 := kt.out w1 hR1.out; have eq0 := kq.out w1 hR1.out)
        | (go_at_call 85; refine (ko.out _ hR1.out).mono ?_; rintro e w2 ⟨⟨v, rfl, hv, _⟩, hb2⟩; obtain rfl := hv (by simp); have hR2 := Lib.hid ((hR1.out.later hb2).later (below_new w2 (.cells #[.pointer (some ⟨ad m, 0, none⟩), .string y] 136))))
        | (go_at_call 88; refine (kc.out _ hR2.out).mono ?_; rintro e w3 ⟨rfl, hm3, ho3⟩)
        | (go_at_call 89; refine (kd.out _ _ hR2.out ho3).mono ?_; rintro e w4 ⟨rfl, hd4⟩))
      go_ret
      have hB := bthen (bthen hb1 hb2) (below_new w2 (.cells #[.pointer (some ⟨ad m, 0, none⟩), .string y] 136))
      refine ⟨rfl, ⟨ad, mb, (hR2.out.cleared hW hm hk (hm3.cong fun s _ => ?_) ho3 hd4).weak (Grow.self F _ _) (by omega)⟩, Keep.fresh hB ((Keep.ofOth (F := fun k => F k) ho3 (hR.map _ _ hm hk).1).trans (hd4.keep.weak ?_)) fun _ _ h => h⟩
      · rfl
      · rintro k (rfl | ⟨a, b, h1, rfl⟩)
        · exact hR.ftree
        · exact (hR.node _ _ h1).2
  · have hE : T.clr p = (T, (T.find p).2) := by
      have : T.clrE p = (T.find p).2 := by unfold Tr.clrE; rw [if_pos hc]
      unfold Tr.clr
      rw [this, if_neg hc]
    rw [hE]
    generalize T.find p = x at *
    obtain ⟨j, z⟩ := x
    simp only at hc kf ⊢
    simp only [fv, if_neg hc, ptrv] at kf
    have g : (z != 0) = true := by simp [hc]
    clear hE hc
    go_enter Tryz.func58, Tryz.ntmps58
    go_wp2_with (go_at_call 66; refine (kf.out _ HR.out).mono ?_; rintro e w1 ⟨rfl, hb1⟩)
    go_ret
    exact Done.err HR.out hb1 z
theorem Done.pre {W : World} {r : Tr × Int} {e : Ending} (hb : Below w.heap.size w W) (h : Done F K W w' tb r e) : Done F K w w' tb r e := by
  obtain ⟨h1, h2, h3⟩ := h
  refine ⟨h1, h2.weak (fun k hk => ?_) (Nat.le_refl _), Keep.fresh hb h3 fun _ _ h => h⟩
  rcases hk with h | ⟨h4, h5⟩
  · exact .inl h
  · exact .inr ⟨Nat.le_trans hb.size h4, h5⟩
theorem noKids_iff {R : Ps} {p : Path} : Nt.noKids R p = true ↔ ∀ s n, (p ++ [s], n) ∉ R := by
  unfold Nt.noKids
  rw [List.all_eq_true]
  constructor
  · intro h s n hm
    have := h _ hm
    simp at this
  · rintro h ⟨a, n⟩ hm
    simp only [decide_eq_true_eq]
    rintro ⟨h1, h2⟩
    rw [← List.dropLast_concat_getLast h1, h2] at hm
    exact h _ _ hm
/-- How many names a node has. -/
theorem RepP.len (hR : RepP F K w tb T ad mb) (hW : WF T K) {q : Path} {n : Nat} (hq : (q, n) ∈ T.paths) (ty : TypeId) :
    ∃ k : Nat, (Builtin.len_ #[89] ty #[.map (mbv T mb n)]).run Tryz.prog w = .ok (.int .i64 k) w ∧ (k = 0 ↔ Nt.noKids T.paths q = true) := by
  by_cases hk : (T.nd n).kind = 4
  · have e : mbv T mb n = some (mb n) := by unfold mbv; rw [if_pos hk]
    rw [e]
    obtain ⟨k, h1, h2⟩ := (hR.map _ _ hq hk).2.len ty
    refine ⟨k, h1, h2.trans ?_⟩
    rw [noKids_iff]
    constructor
    · intro h s j hj
      have := h s (by have := Nt.nm_le (hW.up _ _ _ hj).2.1; unfold maxLen; omega)
      rw [hW.atI.2 hj] at this
      cases this
    · intro h s _
      cases ha : at_ T.paths (q ++ [s]) with
      | none => rfl
      | some j => exact absurd (Nt.at_mem ha) (h s j)
  · have e : mbv T mb n = none := by unfold mbv; rw [if_neg hk]
    rw [e]
    refine ⟨0, Maps.len_nil Tryz.underlying89 ty, ?_⟩
    rw [noKids_iff]
    refine ⟨fun _ s j hj => ?_, fun _ => rfl⟩
    obtain ⟨_, _, m, h5, h6⟩ := hW.up q s j hj
    rw [Nt.nodup_one hW.nodup hq h5] at hk
    exact absurd h6 hk
theorem remove_any (hW : WF T K) (hK : K ≤ 100000) (hR : RepP F K w tb T ad mb) (p : ByteArray) (hp : p.size ≤ 1000000) :
    Calls Tryz.prog 45 #[.pointer (some ⟨tb, 0, none⟩), .string p] w fun e w' => Done F K w w' tb (T.rm p) e := by
  have HR := Lib.hid hR
  have kf := Lib.hid (fun W (h : RepP F K W tb T ad mb) => find_any hW h p hp)
  have kl := Lib.hid (fun W (h : RepP F K W tb T ad mb) => clear_any hW hK h p hp)
  by_cases hc : (T.find p).2 = 0
  · have hj := (hW.find_ok hc).2
    have hfd : T.find p = ((T.find p).1, 0) := by rw [← hc]
    have hroot := hW.find_root hc
    by_cases h0 : p.size = 0
    · have hE : T.rm p = (T, 1) := by
        have h1 : T.clrE p = 1 := by unfold Tr.clrE; rw [if_neg (by simp [hc]), if_pos h0]
        have : T.rmE p = 1 := by unfold Tr.rmE; rw [h1, if_pos (by decide)]
        unfold Tr.rm
        rw [this, if_neg (by decide)]
      rw [hE]
      rw [hroot.2 h0] at hfd hj
      rw [hfd] at kf
      simp only [fv, if_pos, ptrv] at kf
      have kq := Lib.hid (fun W (h : RepP F K W tb T ad mb) => eqp_same W (ad 0))
      have kt := Lib.hid (fun W (h : RepP F K W tb T ad mb) => show W.cell? ⟨tb, 0, none⟩ = some (.pointer (some ⟨ad 0, 0, none⟩)) from h.tree.cell rfl)
      clear hE hroot hfd hc
      go_enter Tryz.func45, Tryz.ntmps45
      go_wp2_with (go_at_call 66; refine (kf.out _ HR.out).mono ?_; rintro e w1 ⟨rfl, hb1⟩; have t0 := kt.out w1 (HR.out.later hb1); have eq0 := kq.out w1 (HR.out.later hb1))
      go_ret
      exact Done.err HR.out hb1 1
    · have hce : T.clrE p = 0 := by unfold Tr.clrE; rw [if_neg (by simp [hc]), if_neg h0]
      have hn0 : (T.find p).1 ≠ 0 := fun e => h0 (hroot.1 e)
      have hE : T.rm p = if Nt.noKids T.paths (Nt.nms p) = false then (T, 18) else T.clr p := by
        have h2 : T.rmE p = if Nt.noKids T.paths (Nt.nms p) = false then 18 else 0 := by unfold Tr.rmE; rw [if_neg (by simp [hce])]
        unfold Tr.rm Tr.clr
        rw [h2, hce]
        by_cases h : Nt.noKids T.paths (Nt.nms p) = false
        · rw [if_pos h, if_pos h, if_neg (by decide)]
        · rw [if_neg h, if_neg h, if_pos rfl]
      rw [hE]
      rw [hfd] at kf
      generalize (T.find p).1 = n at *
      simp only [fv, if_pos, ptrv] at kf
      have kq := Lib.hid (fun W (h : RepP F K W tb T ad mb) => show (binOp .eql 87 (.pointer (some ⟨ad n, 0, none⟩)) (.pointer (some ⟨ad 0, 0, none⟩))).run Tryz.prog W = .ok (.bool false) W from by
        have := h.eqp hj hW.root
        rw [decide_eq_false hn0] at this
        exact this)
      have kt := Lib.hid (fun W (h : RepP F K W tb T ad mb) => show W.cell? ⟨tb, 0, none⟩ = some (.pointer (some ⟨ad 0, 0, none⟩)) from h.tree.cell rfl)
      have k7 := Lib.hid (fun W (h : RepP F K W tb T ad mb) => show W.cell? ⟨ad n, 7, none⟩ = some (.map (mbv T mb n)) from (h.node _ _ hj).1.cell rfl)
      have kn := Lib.hid (fun W (h : RepP F K W tb T ad mb) => h.len hW hj 3)
      generalize mbv T mb n = mv at *
      by_cases hnk : Nt.noKids T.paths (Nt.nms p) = true
      · rw [if_neg (by simp [hnk])]
        have knz := Lib.hid (fun W (h : RepP F K W tb T ad mb) => show (Builtin.len_ #[89] 3 #[.map mv]).run Tryz.prog W = .ok (.int .i64 0) W from by
          obtain ⟨k, h1, h2⟩ := kn.out W h
          rw [h2.2 hnk] at h1
          exact h1)
        clear hE hroot hfd hc h0 hce hn0 hnk
        go_enter Tryz.func45, Tryz.ntmps45
        go_wp2_with (first
          | (go_at_call 66; refine (kf.out _ HR.out).mono ?_; rintro e w1 ⟨rfl, hb1⟩; have hR1 := Lib.hid (HR.out.later hb1); have t0 := kt.out w1 hR1.out; have eq0 := kq.out w1 hR1.out; have t7 := k7.out w1 hR1.out; have ln := knz.out w1 hR1.out)
          | (go_at_call 58; refine (kl.out _ hR1.out).mono ?_; rintro e w2 ⟨rfl, hd1, hd2⟩))
        go_ret
        exact Done.pre hb1 ⟨rfl, hd1, hd2⟩
      · have hnk' : Nt.noKids T.paths (Nt.nms p) = false := by cases h : Nt.noKids T.paths (Nt.nms p) with | false => rfl | true => exact absurd h hnk
        rw [if_pos hnk']
        have knz := Lib.hid (fun W (h : RepP F K W tb T ad mb) => show ∃ k : Nat, (Builtin.len_ #[89] 3 #[.map mv]).run Tryz.prog W = .ok (.int .i64 k) W ∧ (0 : Int) < k from by
          obtain ⟨k, h1, h2⟩ := kn.out W h
          refine ⟨k, h1, ?_⟩
          have : k ≠ 0 := fun e => hnk (h2.1 e)
          omega)
        clear hE hroot hfd hc h0 hce hn0 hnk hnk'
        go_enter Tryz.func45, Tryz.ntmps45
        go_wp2_with (first
          | (go_at_call 66; refine (kf.out _ HR.out).mono ?_; rintro e w1 ⟨rfl, hb1⟩; have hR1 := Lib.hid (HR.out.later hb1); have t0 := kt.out w1 hR1.out; have eq0 := kq.out w1 hR1.out; have t7 := k7.out w1 hR1.out; obtain ⟨kk, ln, lz⟩ := knz.out w1 hR1.out))
        go_ret
        exact Done.err HR.out hb1 18
  · have hE : T.rm p = (T, (T.find p).2) := by
      have h1 : T.clrE p = (T.find p).2 := by unfold Tr.clrE; rw [if_pos hc]
      have : T.rmE p = (T.find p).2 := by unfold Tr.rmE; rw [h1, if_pos hc]
      unfold Tr.rm
      rw [this, if_neg hc]
    rw [hE]
    generalize T.find p = x at *
    obtain ⟨j, z⟩ := x
    simp only at hc kf ⊢
    simp only [fv, if_neg hc, ptrv] at kf
    have g : (z != 0) = true := by simp [hc]
    clear hE hc
    go_enter Tryz.func45, Tryz.ntmps45
    go_wp2_with (go_at_call 66; refine (kf.out _ HR.out).mono ?_; rintro e w1 ⟨rfl, hb1⟩)
    go_ret
    exact Done.err HR.out hb1 z
end
end Go.Proofs.YtbianfjennnofaaGreatDoor
