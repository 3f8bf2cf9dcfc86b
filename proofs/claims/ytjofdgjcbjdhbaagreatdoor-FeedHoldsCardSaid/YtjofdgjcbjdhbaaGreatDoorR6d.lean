/- WALKS OF LAYER 6, FOURTH PART: recs.One. -/
import Derived.Test.YtjofdgjcbjdhbaaGreatDoorR6c
import Derived.Lib.ConvBytes
import Derived.Laws.AppendOwn
import Derived.Deep.RegionHeld3
namespace Go.Proofs.YtjofdgjcbjdhbaaGreatDoor
open Go Go.RowKit
set_option linter.unusedVariables false
set_option maxHeartbeats 1000000
/-- THE SLICE VALUE v READS AS THE BYTES l. -/
def RV (w : World) (v : Value) (l : Rc.Bs) : Prop := ∃ A c, v = .slice A l.length c ∧ RB w w.heap.size A l.length (Rc.ints l) ∧ l.length ≤ c ∧ c ≤ maxLen
theorem RV.nil (w : World) : RV w (.slice none 0 0) [] := ⟨none, 0, rfl, RB.nil, Nat.le_refl _, Nat.zero_le _⟩
theorem RV.later {w w' : World} {v : Value} {l : Rc.Bs} (h : RV w v l) (hb : Below w.heap.size w w') : RV w' v l := by
  obtain ⟨A, c, e, h1, h2, h3⟩ := h
  exact ⟨A, c, e, (h1.below hb).more hb.size, h2, h3⟩
/-- '[]byte(s)'. -/
theorem conv_rv (w : World) (s : ByteArray) (hs : s.size ≤ 1000000) (e : TypeId) : RV (Lib.bytesWorld w e s) (.slice (some ⟨w.heap.size, 0, none⟩) s.size (grownCap w s.size 0 e)) s.data.toList := by
  refine ⟨_, _, rfl, ⟨Rc.ints_len _, fun _ => ⟨w.heap.size, 0, rfl, by rw [Lib.bytesWorld_size]; omega, fun j hj => ?_⟩⟩, grownCap_ge _ _ _ _, grownCap_le_maxLen _ _ _ _ (by unfold maxLen; omega)⟩
  rw [show 0 + j = j by omega, Lib.bytesWorld_cell _ _ _ _ hj, Rc.ints_getD]
theorem conv_below {B : Nat} {w w1 : World} (h : Below B w w1) (hB : B ≤ w1.heap.size) (s : ByteArray) (e : TypeId) : Below B w (Lib.bytesWorld w1 e s) := by
  refine h.trans ⟨rfl, rfl, rfl, by rw [Lib.bytesWorld_size]; omega, fun k hk => Lib.bytesWorld_at_old _ _ _ _ (by omega)⟩
theorem conv_run (s : ByteArray) (w : World) : (convert 9 25 (.string s)).run Tryz.prog w = .ok (.slice (some ⟨w.heap.size, 0, none⟩) s.size (grownCap w s.size 0 5)) (Lib.bytesWorld w 5 s) :=
  Lib.run_convert_string_bytes w 9 25 5 s Tryz.underlying9 Tryz.underlying25 Tryz.underlying5
set_option maxRecDepth 100000 in
theorem one6_any (k v : ByteArray) (w : World) (tb : Tab w) (hk : k.size ≤ 10000) (hv : v.size ≤ 10000) :
    Calls Tryz.prog 118 #[.agg #[.string k, .string v]] w fun e w' => ∃ u, e = .returned (.tuple #[u, .int .i64 (Rc.mayN (k, v) : Nat)]) ∧ RV w' u (Rc.oneL (k, v)) ∧ Below w.heap.size w w' := by
  have M := Lib.hid (rmay_any k v)
  have UN := Lib.hid fun W (hb : Below (w.alloc (.cells #[.string k, .string v] 128)).heap.size (w.alloc (.cells #[.string k, .string v] 128)) W) => unbox hb
  have BX2 := Lib.hid fun W (hb : Below (w.alloc (.cells #[.string k, .string v] 128)).heap.size (w.alloc (.cells #[.string k, .string v] 128)) W) => box2 hb
  have LE := Lib.hid fun W (hb : Below (w.alloc (.cells #[.string k, .string v] 128)).heap.size (w.alloc (.cells #[.string k, .string v] 128)) W) => len6_any k v W (tb.on (unbox hb)) hk hv
  have BO := Lib.hid fun W => body_any k v W (by omega) (by omega)
  have hone : Rc.oneL (k, v) = if Rc.mayN (k, v) = 0 then Lib.decDigits (Rc.lenR (k, v)) ++ Rc.bodyL (k, v) else [] := rfl
  have hlb := (Rc.lenR_bounds (k, v)).1
  have IT := Lib.hid fun W (hb : Below (w.alloc (.cells #[.string k, .string v] 128)).heap.size (w.alloc (.cells #[.string k, .string v] 128)) W) => itoa_any (Rc.lenR (k, v)) (by omega) W (tb.on (unbox hb))
  rw [hone]
  by_cases hm : Rc.mayN (k, v) = 0
  · rw [if_pos hm]
    rw [hm] at M ⊢
    have hsz : (Rc.S (Lib.decDigits (Rc.lenR (k, v))) ++ Rc.S (Rc.bodyL (k, v))).size ≤ 1000000 := by
      rw [Rc.S_append, Rc.size_S]
      have := Rc.one_len (k, v)
      rw [hone, if_pos hm] at this
      omega
    have hdat : (Rc.S (Lib.decDigits (Rc.lenR (k, v))) ++ Rc.S (Rc.bodyL (k, v))).data.toList = Lib.decDigits (Rc.lenR (k, v)) ++ Rc.bodyL (k, v) := by rw [Rc.S_append]; rfl
    rw [← hdat]
    have hds : (Rc.S (Lib.decDigits (Rc.lenR (k, v)))).size ≤ 1000000 := by
      rw [Rc.S_append, Rc.size_S, List.length_append] at hsz
      rw [Rc.size_S]; omega
    have hbs : (Rc.S (Rc.bodyL (k, v))).size ≤ 1000000 := by
      rw [Rc.S_append, Rc.size_S, List.length_append] at hsz
      rw [Rc.size_S]; omega
    have hno : ¬ 9223372036854775807 < (Rc.S (Lib.decDigits (Rc.lenR (k, v)))).size + (Rc.S (Rc.bodyL (k, v))).size := by omega
    clear hone hdat hm hlb tb
    generalize Rc.S (Lib.decDigits (Rc.lenR (k, v))) = ds at *
    generalize Rc.S (Rc.bodyL (k, v)) = bs at *
    generalize Rc.lenR (k, v) = n at *
    have cvr := conv_run (ds ++ bs)
    have crv : ∀ W, RV (Lib.bytesWorld W 5 (ds ++ bs)) (.slice (some ⟨W.heap.size, 0, none⟩) (ds.size + bs.size) (grownCap W (ds.size + bs.size) 0 5)) (ds ++ bs).data.toList := fun W => by
      have := conv_rv W (ds ++ bs) hsz 5
      rw [ByteArray.size_append] at this
      exact this
    have CRV := Lib.hid crv; clear crv
    clear hsz
    go_enter Tryz.func118, Tryz.ntmps118
    go_wp2_with (go_at_call 140; (with_reducible refine (M.out _).mono ?_); rintro e w1 ⟨rfl, hb1⟩; obtain ⟨q0, q1⟩ := BX2.out _ hb1)
    have hacc : Below (w.alloc (.cells #[.string k, .string v] 128)).heap.size (w.alloc (.cells #[.string k, .string v] 128)) w1.drew := hb1.drew
    clear hb1
    obtain ⟨q2, q3⟩ := BX2.out _ hacc
    go_region_law (first
        | (go_simp; go_at_call 142; (with_reducible refine (LE.out _ hacc).mono ?_); rintro e wna ⟨rfl, hbna⟩; replace hacc := bthen hacc hbna; have qa := (BX2.out _ hacc).1; have qb := (BX2.out _ hacc).2)
        | (go_simp; go_at_call 143; (with_reducible refine (BO.out _).mono ?_); rintro e wnb ⟨rfl, hbnb⟩; replace hacc := bthen hacc hbnb; have qa := (BX2.out _ hacc).1; have qb := (BX2.out _ hacc).2)
        | (go_simp; go_at_call 141; (with_reducible refine (IT.out _ hacc).mono ?_); rintro e wnc ⟨rfl, hbnc⟩; replace hacc := bthen hacc hbnc; have qa := (BX2.out _ hacc).1; have qb := (BX2.out _ hacc).2))
    all_goals
      go_wp2
      go_ret2
      exact ⟨_, rfl, CRV.out _, UN.out _ (conv_below hacc hacc.size _ _)⟩
  · have hmi : ((Rc.mayN (k, v) : Int) != 0) = true := by simp; omega
    rw [if_neg hm]
    clear hone hm hlb tb
    generalize Rc.mayN (k, v) = m at *
    go_enter Tryz.func118, Tryz.ntmps118
    go_wp2_with (go_at_call 140; (with_reducible refine (M.out _).mono ?_); rintro e w1 ⟨rfl, hb1⟩; obtain ⟨q0, q1⟩ := BX2.out _ hb1)
    go_ret2
    exact ⟨_, rfl, RV.nil _, UN.out _ hb1⟩
end Go.Proofs.YtjofdgjcbjdhbaaGreatDoor
