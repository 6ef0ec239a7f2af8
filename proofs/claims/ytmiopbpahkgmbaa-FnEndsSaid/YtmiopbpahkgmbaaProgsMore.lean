/- 'append' to a row of instructions that the call owns. -/
import Derived.Test.YtmiopbpahkgmbaaProgs
namespace Go.Proofs.Ytmiopbpahkgmbaa
open Go.RowKit Go

/-- 'append' to a row of instructions that the call owns. -/
theorem wpList_append_ownP {w : World} {ops : Array Oper} {rest : List Oper} {o : Oper} {a : Act} {Q : Exit → Act → World → Prop} (hgd : o.guard = none) (s x : Operand)
    (ho : o.op = .call { callee := .builtin .append, args := #[s, x], argTypes := #[24, 24] })
    (base : Nat) (v : Value) (n : Nat) (xs : List Int) (hs : a.eval s = v) (hown : OwnP base w v n xs) (ad : Addr) (m c : Nat) (news : List Int) (hx : a.eval x = .slice (some ad) m c) (hl : news.length = m * 4)
    (hnews : ∀ j u, (news.map (Value.int .i64))[j]? = some u → w.cell? (ad.add j) = some u) (hnm : n + m ≤ 10000000) (hbase : base ≤ w.heap.size)
    (h : ∀ v' w', Hid (OwnP base w' v' (n + m) (xs ++ news)) → Hid (w.grownBy w' v.ownBlock) → wpList Try.prog ops Q rest (a.put o.dst v') w') : wpList Try.prog ops Q (o :: rest) a w := by
  obtain ⟨i0, hi, hz0, hz1, hz2⟩ := info_parts info_ins
  refine wpList_append_own w hgd s x 24 ho base 33 i0 (.agg #[.int .i64 0, .int .i64 0, .int .i64 0, .int .i64 0]) 4 32 Try.underlying24 hi hz0 hz1 hz2 rfl (by decide) v n _ hs hown ad m c (news.map (.int .i64)) hx (by rw [List.length_map]; exact hl) hnews (ints_oneCell _ _) (by unfold maxLen; omega) (by omega) hbase ?_
  intro v' w' h1 h2 _
  refine h v' w' (show OwnP _ _ _ _ _ from ?_) h2
  unfold OwnP
  rw [List.map_append]
  exact h1

theorem ownP_made (w : World) (base : Nat) (hb : base ≤ w.heap.size) : OwnP base (w.alloc (.cells #[] 33)) (.slice (some ⟨w.heap.size, 0, none⟩) 0 0) 0 [] :=
  World.ownsRow_made w #[] 0 hb (by unfold maxLen; omega) rfl

theorem ins_src (w : World) (o a b c : Int) (n : Nat) (hn : n = w.heap.size) : ∀ j u, (([o, a, b, c] : List Int).map (Value.int .i64))[j]? = some u → (w.alloc (.cells #[.int .i64 o, .int .i64 a, .int .i64 b, .int .i64 c] 33)).cell? ((⟨n, 0, none⟩ : Addr).add j) = some u := by
  intro j u h
  subst hn
  have h4 : j = 0 ∨ j = 1 ∨ j = 2 ∨ j = 3 := by
    have := (List.getElem?_eq_some_iff.1 h).1
    simp at this
    omega
  rcases h4 with rfl | rfl | rfl | rfl <;> (simp at h; subst h; simp [Addr.add])

theorem lit_src (w : World) (ns : List Int) (n : Nat) (hn : n = w.heap.size) : ∀ j u, (ns.map (Value.int .i64))[j]? = some u → (w.alloc (.cells (ns.map (Value.int .i64)).toArray 33)).cell? ((⟨n, 0, none⟩ : Addr).add j) = some u := by
  intro j u h
  subst hn
  have hj : j < ns.length := by
    have := (List.getElem?_eq_some_iff.1 h).1
    simpa using this
  by_cases h0 : j = 0
  · subst h0; simp at h; simp [Addr.add, h]
  · simp at h; simp [Addr.add, h0, h]

end Go.Proofs.Ytmiopbpahkgmbaa
