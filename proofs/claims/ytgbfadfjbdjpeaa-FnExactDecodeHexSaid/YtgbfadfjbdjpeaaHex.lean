/- EncodeHex: the model's and the program's, each computes hexOf. -/
import Derived.Test.YtgbfadfjbdjpeaaBase
import Derived.Test.YtgbfadfjbdjpeaaChecked
import Derived.Deep.RegionLaw
import Derived.Deep.AppendLies
import Derived.WalkSpells
import Derived.LoopTactic
import Derived.OwnWalk
import Derived.Laws.BytesArg
namespace Go.Proofs.Ytgbfadfjbdjpeaa
open Go.RowKit Go

theorem ret_int {k : IntKind} {a b : Int} (h : a = b) : Ending.returned (.int k a) = .returned (.int k b) := by rw [h]

def figOf (x : Int) : Int := if x < 10 then 48 + x else 87 + x

theorem fig_any (x : Int) (w : World) (h0 : 0 ≤ x) (h1 : x < 16) : Calls Try.prog 25 #[.int .i64 x] w (fun e w' => e = .returned (.int .u8 (figOf x)) ∧ w' = w) := by
  by_cases h : x < 10
  all_goals go_enter Try.func25, Try.ntmps25
  all_goals go_wp2
  all_goals go_ret
  all_goals exact ⟨ret_int (by unfold figOf; split <;> omega), rfl⟩

def hexL (l : List UInt8) : List Int := l.flatMap fun b => [figOf ((b.toNat : Int) / 16), figOf ((b.toNat : Int) % 16)]

theorem info_5 : (Try.prog.info? 5).map (fun i => (i.zero, i.size, i.bytes)) = some (some (.int .u8 0), 1, 1) := by kernel_rfl

/-- Bytes that the call owns, made a string. -/
theorem own_string {w : World} {base n : Nat} {v : Value} {xs : List Int} (h : w.ownsRow base 5 1 v n (xs.map (.int .u8))) : (convert 22 9 v).run Try.prog w = .ok (.string (strOfNums xs)) w := by
  have hl : xs.length = n := by have := h.1; simpa using this
  have hcells := fun g hg => h.cells (g := g) hg
  rcases h.2 with ⟨rfl, rfl⟩ | ⟨g, cap, cur, rfl, _, hg, _⟩
  · obtain rfl : xs = [] := by cases xs <;> simp_all
    exact run_convert_bytes_nil w 22 5 Try.underlying22 Try.underlying5 0 0 9 Try.underlying9
  · refine run_convert_bytes_arg w 22 5 Try.underlying22 Try.underlying5 g 0 n cap xs hl (fun i hi => ?_) 9 Try.underlying9
    have := hcells g rfl i (.int .u8 (xs.getD i 0)) (by
      rw [List.getElem?_map, List.getD_eq_getElem?_getD, List.getElem?_eq_getElem (by omega)]; rfl)
    have hadd : (⟨g, 0, none⟩ : Addr).add i = ⟨g, 0 + i, none⟩ := by unfold Addr.add; split <;> simp_all
    rw [hadd] at this
    exact this

theorem hexL_take (s : ByteArray) (k : Nat) (h : k < s.size) : hexL (s.data.toList.take (k + 1)) = hexL (s.data.toList.take k) ++ [figOf ((s[k].toNat : Int) / 16), figOf ((s[k].toNat : Int) % 16)] := by
  have e : s.data.toList.take (k + 1) = s.data.toList.take k ++ [s[k]] := by
    rw [List.take_succ_eq_append_getElem (by simpa using h)]; rfl
  rw [e]; simp [hexL]
theorem hexL_len (l : List UInt8) : (hexL l).length = 2 * l.length := by
  induction l with
  | nil => rfl
  | cons b l ih => simp only [hexL, List.flatMap_cons, List.length_append, List.length_cons, List.length_nil] at *; omega
theorem hexL_all (s : ByteArray) : s.data.toList.take s.size = s.data.toList := List.take_of_length_le (by simp)

/-- The relation of the loop, at the round's end. -/
theorem hex_rel {W w1 : World} {v : Value} {s : ByteArray} {k : Nat} (h : k < s.size)
    (hown : w1.ownsRow W.heap.size 5 1 v (2 * k + 2) ((hexL (s.data.toList.take k)).map (.int .u8) ++ [.int .u8 (figOf ((s[k].toNat : Int) / 16)), .int .u8 (figOf ((s[k].toNat : Int) % 16))])) (hb : Below W.heap.size W w1) :
    ∃ j : Nat, j ≤ s.size ∧ Value.int .i64 ((k : Int) + 1) = .int .i64 j ∧ w1.ownsRow W.heap.size 5 1 v (2 * j) ((hexL (s.data.toList.take j)).map (.int .u8)) ∧ Below W.heap.size W w1 :=
  ⟨k + 1, h, by go_num, by rw [hexL_take s k h, List.map_append, show 2 * (k + 1) = 2 * k + 2 from by omega]; exact hown, hb⟩

theorem below_own {B : Nat} {W w w1 : World} {v : Value} {o : Obj} {e : TypeId} {size n : Nat} {xs : List Value} (hb : Below B W w) (hB : B ≤ w.heap.size) (hown : w.ownsRow B e size v n xs) (hg : ((w.alloc o).drew).grownBy w1 v.ownBlock) : Below B W w1 :=
  ((hb.alloc hB o).drew).grown hg (by simp; omega) (fun k hk => (hown.lt k hk).1)

set_option maxHeartbeats 400000 in
theorem encS_any (s : ByteArray) (w : World) (hs : s.size ≤ 20000) : Calls Try.prog 11 #[.string s] w (fun e w' => e = .returned (.tuple #[.string (strOfNums (hexL s.data.toList)), .bool true]) ∧ Below w.heap.size w w') := by
  obtain ⟨i0, hi0, hz0, hz1, hz2⟩ := info_parts info_5
  go_enter Try.func11, Try.ntmps11
  go_wp2_with fail
  go_loopw [4, 5] (fun v i wr => ∃ k : Nat, k ≤ s.size ∧ i = .int .i64 k ∧ wr.ownsRow w.heap.size 5 1 v (2 * k) ((hexL (s.data.toList.take k)).map (.int .u8)) ∧ Below w.heap.size w wr) (fun _ i _ => s.size - (intOf i).toNat)
  case atStart => exact ⟨0, by omega, rfl, World.ownsRow_made w #[] 0 (Nat.le_refl _) (by unfold maxLen; omega) rfl, (Below.refl _ _).alloc (Nat.le_refl _) _⟩
  case round =>
    obtain ⟨k, hk, rfl, hown, hbel⟩ := hrel
    by_cases hlt : k < s.size
    · have hb : s[k].toNat < 256 := s[k].toNat_lt
      have q1 : IntKind.i64.wrap (s[k].toNat : Int) = (s[k].toNat : Int) := IntWalk.i64_in _ (by omega)
      have q2 : IntKind.i64.wrap ((s[k].toNat : Int) / 16) = (s[k].toNat : Int) / 16 := IntWalk.i64_in _ (by omega)
      have q3 : (s[k].toNat : Int).tmod 16 = (s[k].toNat : Int) % 16 := Int.tmod_eq_emod_of_nonneg (by omega)
      go_wp2_with fail
      go_region_law (first
        | (refine step_append_lies _ (by rfl) _ _ _ (by rfl) w.heap.size 5 i0 _ 1 1 Try.underlying22 hi0 hz0 hz1 hz2 rfl (by omega) u4 (2 * k) _ (by rfl) ((hown.alloc _).drew)
            ⟨wr.heap.size, 0, none⟩ 2 2 [.int .u8 (figOf ((s[k].toNat : Int) / 16)), .int .u8 (figOf ((s[k].toNat : Int) % 16))] (by rfl) (by rfl) (World.news_of_block (cs := #[.int .u8 (figOf ((s[k].toNat : Int) / 16)), .int .u8 (figOf ((s[k].toNat : Int) % 16))]) (t := 5) (fr := (0, 0)) (heap_alloc_new wr _)) (by simp [Value.oneCell'])
            (by omega) (by unfold maxLen; omega) (by omega) (by simp; have := hbel.size; omega) _ rfl ?_; intro gg cap w1 hown1 hgrow hat hlt)
        | (go_simp; go_at_call 25; refine (fig_any _ _ (by omega) (by omega)).mono ?_; rintro e w' ⟨rfl, rfl⟩))
      all_goals clear q1 q2 q3 hat
      all_goals go_wp2_with fail
      all_goals go_roundw
      all_goals first | exact hex_rel (by assumption) hown1 (below_own hbel hbel.size hown hgrow) | (simp [intOf]; omega)
    · obtain rfl : k = s.size := by omega
      have hcv := own_string hown
      rw [hexL_all] at hcv
      go_wp2_with fail
      go_ret2
      exact ⟨rfl, hbel⟩
end Go.Proofs.Ytgbfadfjbdjpeaa
